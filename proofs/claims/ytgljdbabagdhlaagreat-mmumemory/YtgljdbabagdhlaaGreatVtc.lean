/- What entries of package table gives back: the entries of a table, by value; no condition but those named. -/
import Derived.Test.YtgljdbabagdhlaaGreatVtb
import Derived.Deep.MidRow
import Derived.Deep.RegionHeld3
import Derived.Deep.AppendLies
import Derived.Deep.QuietTactic
import Derived.BigQuiet
namespace Go.Proofs.YtgljdbabagdhlaaGreat.Pg
open P E Go.ChangeShapes Go.WideShapes Go.ChangeAt Go.RowKit
set_option linter.unusedVariables false
set_option maxRecDepth 8192
def ec (v:Int):List Value:=[.bool (N.fb v 1),.bool (N.fb v 2),.bool (N.fb v 4),.bool (N.fb v 8),.bool (N.fb v 16),.bool (N.fb v 32),.int .i64 (v / 256)]
def z7:List Value:=[.bool false,.bool false,.bool false,.bool false,.bool false,.bool false,.int .i64 0]
def zs:Nat→List Value
  | 0=>[]
  | n + 1=>z7 ++ zs n
def es (W:Nat→Nat→Int) (f:Nat):Nat→List Value
  | 0=>[]
  | n + 1=>es W f n ++ ec (W f n)
theorem es_len (W:Nat→Nat→Int) (f:Nat):∀ n,(es W f n).length = n * 7
  | 0=>rfl
  | n + 1=>by rw [es,List.length_append,es_len W f n,Nat.add_mul]; rfl
theorem zs_len:∀ n,(zs n).length = n * 7
  | 0=>rfl
  | n + 1=>by rw [zs,List.length_append,zs_len n,Nat.add_mul,Nat.add_comm]; rfl
theorem es_one (W:Nat→Nat→Int) (f:Nat):∀ n,∀ v ∈ es W f n,v.oneCell' = true
  | 0,v,h=>by simp [es] at h
  | n + 1,v,h=>by
    rw [es,List.mem_append] at h
    rcases h with h | h
    · exact es_one W f n v h
    · simp only [ec,List.mem_cons,List.not_mem_nil,or_false] at h
      rcases h with rfl | rfl | rfl | rfl | rfl | rfl | rfl <;> rfl
theorem es_drop (W:Nat→Nat→Int) (f:Nat) {i:Nat}:∀ {n},i < n→((es W f n).drop (i * 7)).take 7 = ec (W f i)
  | 0,h=>absurd h (Nat.not_lt_zero _)
  | n + 1,h=>by
    rw [es]
    by_cases e:i = n
    · subst e
      rw [List.drop_append_of_le_length (by rw [es_len]; omega), ← es_len W f i,List.drop_length,List.nil_append]
      rfl
    · rw [List.drop_append_of_le_length (by rw [es_len]; omega),List.take_append_of_le_length (by rw [List.length_drop,es_len]; omega)]
      exact es_drop W f (by omega)
theorem Tryz.infoE:(Tryz.prog.info? 193).map (fun i=>(i.zero,i.size)) = some (some (.agg (zs 32).toArray),224):=by kernel_rfl
theorem run_indexE (cs:Array Value) (k:IntKind) (i:Nat) (vs:List Value) (hi:i < 32) (hv:(cs.toList.drop (i * 7)).take 7 = vs) (w:World):(Instr.index 193 (.agg cs) (.int k (i:Int))).run Tryz.prog w = .ok (.agg vs.toArray) w:=by
  have hz:(sizeOf 32).run Tryz.prog w = .ok 7 w:=by
    have:=(zero_of_info Tryz.infoN).2
    cases hq:Tryz.prog.info? 32 with
    | none=>simp [hq] at this
    | some i=>simp [hq] at this; simp [sizeOf,typeInfo,hq,this]
  have ha:(isAgg 32).run Tryz.prog w = .ok true w:=by simp [isAgg,run_underlying Tryz.underlying32]
  have he:cs.extract (i * 7) (i * 7 + 7) = vs.toArray:=by
    apply Array.toList_inj.1
    rw [← hv,Array.toList_extract,List.extract_eq_take_drop,Nat.add_sub_cancel_left]
  have hp:(part 32 cs (i * 7)).run Tryz.prog w = .ok (.agg vs.toArray) w:=by simp [part,ha,he]
  have h1:((i:Int) < 32):=by omega
  simp [Instr.index,run_underlying Tryz.underlying193,asIntOf,hz,hp,hi]
theorem es_fill {w:World} {g:Nat} {W:Nat→Nat→Int} {f k:Nat} (hk:k < 32) (h:C.Blk w g 193 (es W f k ++ zs (32 - k))):w.there g (k * 7) 7∧C.Blk (w.setCells g (k * 7) (ec (W f k))) g 193 (es W f (k + 1) ++ zs (32 - (k + 1))):=by
  constructor
  · intro j hj
    rw [h.cell,h.frozen]
    refine ⟨?_,rfl⟩
    rw [List.getElem?_eq_getElem (by rw [List.length_append,es_len,zs_len]; omega)]
    rfl
  · have:=C.Blk.sets (ec (W f k)) (k * 7) w _ h (by rw [List.length_append,es_len,zs_len]; simp only [ec,List.length_cons,List.length_nil]; omega)
    have e1:(es W f k ++ zs (32 - k)).take (k * 7) = es W f k:=by rw [List.take_append_of_le_length (by rw [es_len]; exact Nat.le_refl _),List.take_of_length_le (by rw [es_len]; exact Nat.le_refl _)]
    have e2:(es W f k ++ zs (32 - k)).drop (k * 7 + (ec (W f k)).length) = zs (32 - (k + 1)):=by
      rw [show 32 - k = (32 - (k + 1)) + 1 by omega,zs,List.drop_append,es_len,List.drop_of_length_le (by rw [es_len]; simp only [ec,List.length_cons,List.length_nil]; omega),List.nil_append]
      rw [show k * 7 + (ec (W f k)).length - k * 7 = z7.length by simp only [ec,z7,List.length_cons,List.length_nil]; omega,List.drop_left]
    rw [e1,e2] at this
    exact this
set_option maxHeartbeats 1000000 in
theorem entries_ok {w w1 : World} {X : Nat → Prop} {t c p : Nat} {h : Hw} {P : Par} {S : Sc × Us} {m : Nat → Option Nat} (K : Tv w X t c p h P S m w1) {f : Nat} (hf : f < h.n) (hv : ∀ i, i < 32 → N.mayW (wd S.1.m f i) = true) :
    Calls Tryz.prog 99 #[.pointer (some ⟨t,0,none⟩),.int .i64 f] w1 fun e w'=>e = .returned (.agg (es (wd S.1.m) f 32).toArray)∧Below w1.heap.size w1 w':=by
  have hn:=K.hw.n2
  have HK:Hid (∀ W,Below w1.heap.size w1 W→Tv w X t c p h P S m W):=fun W hW=>K.below hW
  have HV:Hid (∀ i,i < 32→N.mayW (wd S.1.m f i) = true):=hv
  have hz:=(zero_of_info Tryz.infoE).1
  have HB:Hid (∀ Z:Array Value,Below w1.heap.size w1 ((w1.alloc (.cells Z 193)).alloc (.cells Z 193))):=fun Z=>below2 _ _ _
  have HG4:Hid (C.Blk ((w1.alloc (.cells (zs 32).toArray 193)).alloc (.cells (zs 32).toArray 193)) w1.heap.size 193 (zs 32)):=(C.blk_new w1 (zs 32) 193).of_eq (heap_alloc_old _ _ (by simp))
  have HG5:Hid (C.Blk ((w1.alloc (.cells (zs 32).toArray 193)).alloc (.cells (zs 32).toArray 193)) (w1.alloc (.cells (zs 32).toArray 193)).heap.size 193 (zs 32)):=C.blk_new _ (zs 32) 193
  have HIE:Hid ((Tryz.prog.info? 193).map (·.size) = some 224):=(zero_of_info Tryz.infoE).2
  have HIN:Hid ((Tryz.prog.info? 32).map (·.size) = some 7):=(zero_of_info Tryz.infoN).2
  clear K hv
  have HZL:Hid ((zs 32).length = 224):=zs_len 32
  generalize hZ:zs 32 = Zl at *
  have HZ:Hid (zs 32 = Zl):=hZ
  clear hZ
  go_enter Tryz.func99,Tryz.ntmps99
  go_wp2_with fail
  have e1:(w1.alloc (.cells Zl.toArray 193)).heap.size = w1.heap.size + 1:=by simp
  rw [e1] at HG5
  have HB0:Hid (Below w1.heap.size w1 ((w1.alloc (.cells Zl.toArray 193)).alloc (.cells Zl.toArray 193))):=HB.out _
  generalize (w1.alloc (.cells Zl.toArray 193)).alloc (.cells Zl.toArray 193) = W0 at *
  clear e1 HB hz
  go_loopw [7] (fun i wr=>∃ k:Nat,k ≤ 32∧i = .int .i64 k∧Below w1.heap.size w1 wr∧C.Blk wr w1.heap.size 193 Zl∧C.Blk wr (w1.heap.size + 1) 193 (es (wd S.1.m) f k ++ zs (32 - k))) (fun i _=>32 - (D.iv i).toNat)
  case atStart=>exact ⟨0,by omega,rfl,HB0.out,HG4.out,by rw [es,List.nil_append,show 32 - 0 = 32 from rfl,HZ.out]; exact HG5.out⟩
  case round=>
    obtain ⟨k,hk,rfl,hb,h4,h5⟩:=hrel
    have HBr:Hid (Below w1.heap.size w1 wr):=hb
    have H4:Hid (C.Blk wr w1.heap.size 193 Zl):=h4
    have H5:Hid (C.Blk wr (w1.heap.size + 1) 193 (es (wd S.1.m) f k ++ zs (32 - k))):=h5
    clear hb h4 h5 HB0 HG4 HG5
    by_cases hlt:k < 32
    case' pos=>
      have hd:decide ((k:Int) < 32) = true:=by rw [decide_eq_true_eq]; omega
      have CP:Hid (∀ W,Calls _ _ _ W _):=fun W=>place_ok f k (by omega) hlt W
      have CR:Hid (Calls _ _ _ _ _):=read_ok (HK.out wr HBr.out) hf hlt (HV.out k hlt)
      have HA1:Hid ((#[.bool (N.fb (wd S.1.m f k) 1),.bool (N.fb (wd S.1.m f k) 2),.bool (N.fb (wd S.1.m f k) 4),.bool (N.fb (wd S.1.m f k) 8),.bool (N.fb (wd S.1.m f k) 16),.bool (N.fb (wd S.1.m f k) 32),.int .i64 ((wd S.1.m f k) / 256)]:Array Value).toList = ec (wd S.1.m f k)):=rfl
      have HA2:Hid ((#[.bool (N.fb (wd S.1.m f k) 1),.bool (N.fb (wd S.1.m f k) 2),.bool (N.fb (wd S.1.m f k) 4),.bool (N.fb (wd S.1.m f k) 8),.bool (N.fb (wd S.1.m f k) 16),.bool (N.fb (wd S.1.m f k) 32),.int .i64 ((wd S.1.m f k) / 256)]:Array Value).size = 7):=rfl
      have HA3:Hid ((#[.bool (N.fb (wd S.1.m f k) 1),.bool (N.fb (wd S.1.m f k) 2),.bool (N.fb (wd S.1.m f k) 4),.bool (N.fb (wd S.1.m f k) 8),.bool (N.fb (wd S.1.m f k) 16),.bool (N.fb (wd S.1.m f k) 32),.int .i64 ((wd S.1.m f k) / 256)]:Array Value).all (·.oneCell') = true):=by unfold Hid; simp [Value.oneCell']
      generalize (#[.bool (N.fb (wd S.1.m f k) 1),.bool (N.fb (wd S.1.m f k) 2),.bool (N.fb (wd S.1.m f k) 4),.bool (N.fb (wd S.1.m f k) 8),.bool (N.fb (wd S.1.m f k) 16),.bool (N.fb (wd S.1.m f k) 32),.int .i64 ((wd S.1.m f k) / 256)]:Array Value) = A at *
      generalize f * 256 + k * 8 = y at *
      go_wp2_with fail
      refine (CP.out _).mono ?_
      rintro e w' ⟨rfl,rfl⟩
      go_wp2_with fail
      refine CR.out.mono ?_
      rintro e w2 ⟨rfl,hb⟩
      have HF:Hid (w2.there (w1.heap.size + 1) (k * 7) 7∧C.Blk (w2.setCells (w1.heap.size + 1) (k * 7) (ec (wd S.1.m f k))) (w1.heap.size + 1) 193 (es (wd S.1.m) f (k + 1) ++ zs (32 - (k + 1)))):=es_fill hlt (H5.out.of_eq (hb.block _ H5.out.lt))
      have HB2:Hid (Below w1.heap.size w1 w2):=HBr.out.trans (hb.mono HBr.out.size)
      have H42:Hid (C.Blk w2 w1.heap.size 193 Zl):=H4.out.of_eq (hb.block _ H4.out.lt)
      clear hb
      go_wp2_with (refine wpList_store_mid rfl 32 (.tmp 16) (.tmp 15) rfl _ (k * 7) A rfl rfl (by rw [HA2.out]; exact HF.out.1) (by rw [HA2.out]; exact HIN.out) HA3.out ?_)
      go_roundw
      case rel=>
        refine ⟨k + 1,by omega,by go_num,below_sets HB2.out _ (by omega) _ _,H42.out.of_eq (sets_other _ _ (by omega) _ _ _), ?_⟩
        rw [HA1.out]
        exact HF.out.2
      case measure=>simp [D.iv]; omega
    case' neg=>
      obtain rfl:k = 32:=by omega
      have H6:Hid (C.Blk wr (w1.heap.size + 1) 193 (es (wd S.1.m) f 32)):=by
        have:=H5.out
        rw [show zs (32 - 32) = [] from rfl,List.append_nil] at this
        exact this
      have HL:Hid ((es (wd S.1.m) f 32).length = 224):=es_len _ _ _
      have HO:Hid ((es (wd S.1.m) f 32).toArray.all (·.oneCell') = true):=by
        unfold Hid
        rw [Array.all_eq_true_iff_forall_mem]
        exact fun v hv=>es_one _ _ 32 v (by simpa using hv)
      clear H5
      generalize hE:es (wd S.1.m) f 32 = L at *
      have HE:Hid (es (wd S.1.m) f 32 = L):=hE
      clear hE
      obtain ⟨A,rfl⟩:∃ A:Array Value,L = A.toList:=⟨L.toArray,rfl⟩
      have HA:Hid (A.size = 224):=by unfold Hid; rw [← Array.length_toList]; exact HL.out
      have HO' : Hid (A.all (·.oneCell') = true):=HO.out
      have H7:Hid (wr.there w1.heap.size 0 A.size∧C.Blk (wr.setCells w1.heap.size 0 A.toList) w1.heap.size 193 A.toList):=H4.out.whole A (by rw [HA.out,HZL.out])
      have HSZ:Hid ((Tryz.prog.info? 193).map (·.size) = some A.size):=by
        unfold Hid
        rw [HA.out]
        exact HIE.out
      have HRES:Hid (∀ tmps:Array Value,tmps.getD 4 undef = .pointer (some ⟨w1.heap.size,0,none⟩)→(results Tryz.f99 tmps).run Tryz.prog (wr.setCells w1.heap.size 0 A.toList) = .ok (.agg A) (wr.setCells w1.heap.size 0 A.toList)):=fun tmps ht=>
        results_cell_row Tryz.results99 tmps _ w1.heap.size 193 A (0,0) _ ht H7.out.2 Tryz.underlying193 rfl HSZ.out
      clear HO HL
      go_wp2_with (first
        | (refine wpList_load_mid rfl 193 (.tmp 5) rfl _ 0 rfl A.toList _ H6.out.range Tryz.underlying193 rfl (by rw [Array.length_toList]; exact HSZ.out) ?_)
        | (refine wpList_store_mid rfl 193 (.tmp 4) (.tmp 18) rfl _ 0 A rfl rfl H7.out.1 HSZ.out HO'.out ?_))
      exact bodyPost_ret (v:=.agg A) (HRES.out _ rfl) rfl ⟨by rw [HE.out],below_sets HBr.out _ (Nat.le_refl _) _ _⟩
def abv (W:Nat→Nat→Int) (r:Nat) (x:Nat × Nat):Nat:=if x.1 = 0 then 0 else (tb W r (x.1 - 1) (x.2 / 32)).getD 0 * 256 + x.2 % 32 * 8
def nc (W:Nat→Nat→Int) (r:Nat) (x:Nat × Nat):List Value:=[.int .i64 ((tb W r x.1 x.2).getD 0:Nat),.int .i64 ((3 - x.1:Nat):Int),.int .i64 (x.2:Nat),.int .u64 (abv W r x:Nat)]
def enN (W:Nat→Nat→Int) (r:Nat) (l:List (Nat × Nat)):List Value:=l.flatMap (nc W r)
theorem enN_snoc (W:Nat→Nat→Int) (r:Nat) (l:List (Nat × Nat)) (x:Nat × Nat):enN W r (l ++ [x]) = enN W r l ++ nc W r x:=by simp [enN]
def nb:Nat→Nat
  | 0=>0
  | l + 1=>32 * (nb l + 1)
theorem ndn_le {W:Nat→Nat→Int} {r l:Nat} (h:∀ d k,(nds W r l d k).length ≤ nb l) (d k:Nat):∀ n,(ndn W r l d k n).length ≤ n * (nb l + 1)
  | 0=>by simp [ndn]
  | n + 1=>by
    have:=ndn_le h d k n
    have h2:=h (d + 1) (k * 32 + n)
    rw [ndn_succ,List.length_append,Nat.add_mul,Nat.one_mul]
    split
    · rw [List.length_append,List.length_singleton]; omega
    · simp only [List.length_nil]; omega
theorem nds_le {W:Nat→Nat→Int} {r:Nat}:∀ l d k,(nds W r l d k).length ≤ nb l
  | 0,_,_=>Nat.le_refl _
  | l + 1,d,k=>ndn_le (nds_le l) d k 32
structure Dn (B:World) (t gt gl gd:Nat) (W:Nat→Nat→Int) (r:Nat) (w:World) (F:Nat→Prop) (L:List (Nat × Nat)):Prop where
  bl:Below B.heap.size B w
  bt:C.Blk w gt 25 [.pointer (some ⟨t,0,none⟩)]
  bd:C.Blk w gd 190 [.func (.func 98) #[] #[.pointer (some ⟨gt,0,none⟩),.pointer (some ⟨gd,0,none⟩),.pointer (some ⟨gl,0,none⟩)]]
  rw' : ∃ v,C.Blk w gl 142 [v]∧w.ownsRow (gd + 1) 192 4 v L.length (enN W r L)∧∀ x,F x ↔ x = gl ∨ v.ownBlock = some x
  lt:B.heap.size ≤ gt∧gt < gl∧gl < gd
theorem row_lt {w:World} {base:Nat} {ty:TypeId} {k n:Nat} {v:Value} {L:List Value} (h:w.ownsRow base ty k v n L):∀ g,v.ownBlock = some g→base ≤ g∧g < w.heap.size:=by
  obtain ⟨_,⟨rfl,rfl⟩ | ⟨g',cap,cur,rfl,hb',hw,hc,hm,hs,ht⟩⟩:=h
  · intro g hg; cases hg
  · intro g hg
    obtain rfl:g' = g:=by simpa [Value.ownBlock] using hg
    exact ⟨hb',(Array.getElem?_eq_some_iff.1 hw).1⟩
theorem row_eq {w w' : World} {base:Nat} {ty:TypeId} {k n:Nat} {v:Value} {L:List Value} (h:w.ownsRow base ty k v n L) (e:∀ g,v.ownBlock = some g→w'.heap[g]? = w.heap[g]?):w'.ownsRow base ty k v n L:=by
  obtain ⟨h0,⟨rfl,rfl⟩ | ⟨g',cap,cur,rfl,hb',hw,hc,hm,hs,ht⟩⟩:=h
  · exact ⟨h0,Or.inl ⟨rfl,rfl⟩⟩
  · exact ⟨h0,Or.inr ⟨g',cap,cur,rfl,hb',(e g' rfl).trans hw,hc,hm,hs,ht⟩⟩
theorem Dn.flt {B:World} {t gt gl gd:Nat} {W:Nat→Nat→Int} {r:Nat} {w:World} {F:Nat→Prop} {L:List (Nat × Nat)} (K:Dn B t gt gl gd W r w F L):∀ x,F x→x < w.heap.size∧B.heap.size ≤ x∧x ≠ gt∧x ≠ gd:=by
  obtain ⟨v,bv,ov,hF⟩:=K.rw'
  have:=K.lt
  intro x hx
  rcases (hF x).1 hx with rfl | q
  · exact ⟨bv.lt,by omega,by omega,by omega⟩
  · obtain ⟨q1,q2⟩:=row_lt ov x q
    exact ⟨q2,by omega,by omega,by omega⟩
theorem Dn.below {B:World} {t gt gl gd:Nat} {W:Nat→Nat→Int} {r:Nat} {w w' : World} {F:Nat→Prop} {L:List (Nat × Nat)} (K:Dn B t gt gl gd W r w F L) (b:Below w.heap.size w w'):Dn B t gt gl gd W r w' F L:=by
  obtain ⟨v,bv,ov,hF⟩:=K.rw'
  exact ⟨K.bl.trans (b.mono K.bl.size),K.bt.of_eq (b.block _ K.bt.lt),K.bd.of_eq (b.block _ K.bd.lt),⟨v,bv.of_eq (b.block _ bv.lt),row_eq ov (fun g hg=>b.block g (row_lt ov g hg).2),hF⟩,K.lt⟩
theorem Dn.push {B : World} {t gt gl gd : Nat} {W : Nat → Nat → Int} {r : Nat} {w wa w' : World} {F : Nat → Prop} {L : List (Nat × Nat)} {x : Nat × Nat} (K : Dn B t gt gl gd W r w F L) {v : Value} (bv : C.Blk w gl 142 [v]) (hF : ∀ x, F x ↔ x = gl ∨ v.ownBlock = some x) (hr : ∀ g, v.ownBlock = some g → gd + 1 ≤ g ∧ g < w.heap.size) (ba : Below w.heap.size w wa) {g cap : Nat}
    (h2:w'.ownsRow (gd + 1) 192 4 (.slice (some ⟨g,0,none⟩) (L.length + 1) cap) (L.length + 1) (enN W r L ++ nc W r x)) (h3:wa.grownBy w' v.ownBlock) (h4:v.ownBlock = some g ∨ g = wa.heap.size) (h5:g < w'.heap.size) :
    ∃ F',Dn B t gt gl gd W r (w'.setCell ⟨gl,0,none⟩ (.slice (some ⟨g,0,none⟩) (L.length + 1) cap)) F' (L ++ [x])∧C.Kp F F' w (w'.setCell ⟨gl,0,none⟩ (.slice (some ⟨g,0,none⟩) (L.length + 1) cap)):=by
  have hl:=K.lt
  have lg:gl < w.heap.size:=bv.lt
  have ls:=K.bl.size
  have hgl:g ≠ gl:=by
    have:=ba.size
    rcases h4 with q | q
    · have:=(hr g q).1; omega
    · omega
  have keep:∀ y,y < w.heap.size→¬ v.ownBlock = some y→w'.heap[y]? = w.heap[y]?:=fun y hy hn=>(h3.block y (Nat.lt_of_lt_of_le hy ba.size) (fun e=>hn e.symm)).trans (ba.block y hy)
  have no:∀ y,y ≤ gd→¬ v.ownBlock = some y:=fun y hy e=>by have:=(hr y e).1; omega
  have b1:C.Blk w' gl 142 [v]:=bv.of_eq (keep gl lg (no gl (by omega)))
  have st:∀ y,y ≠ gl→(w'.setCell ⟨gl,0,none⟩ (.slice (some ⟨g,0,none⟩) (L.length + 1) cap)).heap[y]? = w'.heap[y]?:=fun y hy=>Below.heap_setCell w' ⟨gl,0,none⟩ _ y hy
  have hsz:(w'.setCell ⟨gl,0,none⟩ (.slice (some ⟨g,0,none⟩) (L.length + 1) cap)).heap.size = w'.heap.size:=by simp [World.setCell]
  have hw:w.heap.size ≤ w'.heap.size:=Nat.le_trans ba.size h3.size
  refine ⟨fun y=>y = gl ∨ y = g,⟨⟨?_, ?_, ?_,by rw [hsz]; omega,fun y hy => ?_⟩,K.bt.of_eq ((st gt (by omega)).trans (keep gt K.bt.lt (no gt (by omega)))),K.bd.of_eq ((st gd (by omega)).trans (keep gd K.bd.lt (no gd (by omega)))),⟨_,b1.set 0 _, ?_,fun y => ?_⟩,K.lt⟩,⟨?_, ?_, ?_,by rw [hsz]; exact hw,fun y hy hn => ?_,fun y hy => ?_⟩⟩
  · exact (h3.os.trans ba.os).trans K.bl.os
  · exact (h3.tape.trans ba.tape).trans K.bl.tape
  · exact (h3.output.trans ba.output).trans K.bl.output
  · rw [st y (by omega),keep y (by omega) (no y (by omega)),K.bl.block y hy]
  · rw [List.length_append,List.length_singleton,enN_snoc]
    exact row_eq h2 (fun y hy=>st y (by obtain rfl:g = y:=(by simpa [Value.ownBlock] using hy); exact hgl))
  · simp [Value.ownBlock]
    constructor
    · rintro (q | q)
      · exact Or.inl q
      · exact Or.inr q.symm
    · rintro (q | q)
      · exact Or.inl q
      · exact Or.inr q.symm
  · exact h3.os.trans ba.os
  · exact h3.tape.trans ba.tape
  · exact h3.output.trans ba.output
  · rw [st y (fun e=>hn ((hF y).2 (Or.inl e))),keep y hy (fun e=>hn ((hF y).2 (Or.inr e)))]
  · rcases hy with q | q
    · exact Or.inl ((hF y).2 (Or.inl q))
    · rcases h4 with q2 | q2
      · exact Or.inl ((hF y).2 (Or.inr (by rw [q]; exact q2)))
      · have:=ba.size; omega
theorem Dn.tail {B : World} {t gt gl gd : Nat} {W : Nat → Nat → Int} {r : Nat} {w : World} {F : Nat → Prop} {L : List (Nat × Nat)} (K : Dn B t gt gl gd W r w F L) {x : Nat × Nat} {M : List Value} (hx : nc W r x = M) : ∃ v, w.cell? ⟨gl, 0, none⟩ = some v ∧ gd + 1 ≤ w.heap.size ∧ (w.alloc (.cells M.toArray 192)).ownsRow (gd + 1) 192 4 v L.length (enN W r L) ∧
    ∀ w' g cap,w'.ownsRow (gd + 1) 192 4 (.slice (some ⟨g,0,none⟩) (L.length + 1) cap) (L.length + 1) (enN W r L ++ M)→(w.alloc (.cells M.toArray 192)).grownBy w' v.ownBlock→(v.ownBlock = some g ∨ g = w.heap.size + 1)→g < w'.heap.size →
      w'.cell? ⟨gl,0,none⟩ = some v∧w'.frozen? ⟨gl,0,none⟩ = false∧∃ F',Dn B t gt gl gd W r (w'.setCell ⟨gl,0,none⟩ (.slice (some ⟨g,0,none⟩) (L.length + 1) cap)) F' (L ++ [x])∧C.Kp F F' w (w'.setCell ⟨gl,0,none⟩ (.slice (some ⟨g,0,none⟩) (L.length + 1) cap)):=by
  obtain ⟨v,bv,ov,hF⟩:=K.rw'
  have hrl:=row_lt ov
  have B1:Below w.heap.size w (w.alloc (.cells M.toArray 192)):=(Below.refl _ _).alloc (Nat.le_refl _) _
  refine ⟨v,bv.cell 0,K.bd.lt,row_eq ov (fun g hg=>B1.block g (hrl g hg).2),fun w' g cap h2 h3 h4 h5 => ?_⟩
  have b':=(bv.of_eq (B1.block _ bv.lt)).kept h3 (fun e=>by have:=(hrl gl e.symm).1; have:=K.lt; omega)
  rw [← hx] at h2
  exact ⟨b'.cell 0,b'.frozen 0,K.push bv hF hrl B1 h2 h3 (by simpa using h4) h5⟩
theorem Tryz.infoD:(Tryz.prog.info? 192).map (fun i=>(i.zero,i.size,i.bytes)) = some (some (.agg #[.int .i64 0,.int .i64 0,.int .i64 0,.int .u64 0]),4,32):=by kernel_rfl
theorem cell_four_new (w:World) (L:List Value) (t:TypeId) (H:Nat) (hH:w.heap.size = H):∀ j u,L[j]? = some u→(w.alloc (.cells L.toArray t)).cell? ((⟨H,0,none⟩:Addr).add j) = some u:=by
  intro j u hu
  rw [Addr.add_mid,Nat.zero_add, ← hH,(C.blk_new w L t).cell]
  exact hu
theorem fb_link {v:Int} {g:Nat} (h:v = 1 + 256 * (g:Int)) (hg:g < 4096):N.mayW v = true∧N.fb v 1 = true∧v / 256 = g:=by
  have e:=N.fb_word true false false false false false (g:Int) (by omega) (by omega)
  have e2:=N.mayW_word true false false false false false (g:Int) (by omega) (by omega)
  have e3:N.lo true false false false false false + (g:Int) * 256 = v:=by rw [h,show N.lo true false false false false false = 1 from rfl]; omega
  rw [e3] at e e2
  refine ⟨?_,e.1,by omega⟩
  rw [e2]
  simp [N.may,N.mb]
  omega
theorem fb_nought:N.mayW 0 = true∧N.fb 0 1 = false∧(0:Int) / 256 = 0:=⟨by decide,by decide,by decide⟩
theorem Ok.may {P:Par} {R:Nat→Prop} {S:Sc × Us} (K:Ok P R S) (hP:P.Ok) {r:Nat} (hr:R r) {d k f:Nat} (hd:d ≤ 3) (h:tb (wd S.1.m) r d k = some f) {i:Nat} (hi:i < 32):N.mayW (wd S.1.m f i) = true:=by
  by_cases h3:d = 3
  · subst h3; exact (K.fo.lf r hr k f h i hi).1
  · rcases K.fo.wf r hr d k f (by omega) h i hi with q | ⟨g,q⟩
    · rw [q]; exact fb_nought.1
    · have:=(K.fo.next hr (show d < 3 by omega) h hi).2 q
      have ho:=K.fo.ow r hr (d + 1) _ g (by omega) this
      obtain ⟨_,_,a,x,ha,hx,e⟩:=K.va.us1 g 3 ho
      exact (fb_link q (by rw [e]; exact fm_lt hP ha hx)).1
theorem Ok.lt {P:Par} {R:Nat→Prop} {S:Sc × Us} (K:Ok P R S) (hP:P.Ok) {h:Hw} (hN:P.N * P.C ≤ h.n) {r:Nat} (hr:R r) {d k f:Nat} (hd:d ≤ 3) (e:tb (wd S.1.m) r d k = some f):f < h.n∧f < 4096:=by
  obtain ⟨_,_,a,x,ha,hx,e⟩:=K.va.us1 f 3 (K.fo.ow r hr d k f hd e)
  have h1:=Nat.mul_le_mul_right P.C (show x + 1 ≤ P.N from hx)
  have h3:=hP.fC _ ha
  have h4:=hP.NF
  rw [Nat.add_mul] at h1
  unfold fm at e
  omega
theorem _root_.Go.Proofs.YtgljdbabagdhlaaGreat.C.Kp.out {X X' : Nat→Prop} {w w' : World} (k:C.Kp X X' w w') {g:Nat} (hg:g < w.heap.size) (hn:¬ X g):w'.heap[g]? = w.heap[g]?∧¬ X' g∧g < w'.heap.size:=
  ⟨k.block g hg hn,fun q=>by
    rcases k.new g q with q | q
    · exact hn q
    · omega,Nat.lt_of_lt_of_le hg k.size⟩
set_option maxHeartbeats 4000000 in
theorem down_ok {P : Par} (hP : P.Ok) {R : Nat → Prop} {S : Sc × Us} (K : Ok P R S) {h : Hw} (hN : P.N * P.C ≤ h.n) {r : Nat} (hr : R r) {B : World} {X : Nat → Prop} {t c p : Nat} {m : Nat → Option Nat} (HT : Tt B X t c p h P S m) (gt gl gd : Nat) :
    ∀ (l d k f:Nat),d + l = 3→tb (wd S.1.m) r d k = some f→∀ (w:World) (F:Nat→Prop) (L:List (Nat × Nat)),Dn B t gt gl gd (wd S.1.m) r w F L→L.length + nb l + 1 ≤ 40000 →
    Calls Tryz.prog 98 #[.agg #[.int .i64 f,.int .i64 (l:Nat),.int .i64 (k:Nat),.int .u64 (abv (wd S.1.m) r (d,k):Nat)],.pointer (some ⟨gt,0,none⟩),.pointer (some ⟨gd,0,none⟩),.pointer (some ⟨gl,0,none⟩)] w
      fun e w'=>e = .returned (.tuple #[])∧∃ F',Dn B t gt gl gd (wd S.1.m) r w' F' (L ++ (nds (wd S.1.m) r l d k ++ [(d,k)]))∧C.Kp F F' w w':=by
  intro l
  induction l with
  | zero=>
    intro d k f hd hf w F L K1 hlen
    obtain rfl:d = 3:=by omega
    have HNC:Hid (nc (wd S.1.m) r (3,k) = [.int .i64 f,.int .i64 0,.int .i64 (k:Nat),.int .u64 (abv (wd S.1.m) r (3,k):Nat)]):=by unfold Hid nc; rw [hf]; rfl
    generalize abv (wd S.1.m) r (3,k) = ab at *
    have B1:Below w.heap.size w (w.alloc (.cells #[.int .i64 f,.int .i64 0,.int .i64 (k:Nat),.int .u64 ab] 192)):=(Below.refl _ _).alloc (Nat.le_refl _) _
    obtain ⟨v,cv,hbase,ho,hpu⟩:=(K1.below B1).tail HNC.out
    have HO:Hid (World.ownsRow _ _ _ _ _ _ _):=ho
    have HPU:Hid (∀ w' g cap,_→_→_→_→_∧_∧∃ F',_∧_):=hpu
    have HB1:Hid (Below _ _ _):=B1
    have hnb:nb 0 = 0:=rfl
    obtain ⟨i0,hi0,hz0,hz1,hz2⟩:=info_parts Tryz.infoD
    rw [hnb] at hlen
    have es:(w.alloc (.cells #[.int .i64 f,.int .i64 0,.int .i64 (k:Nat),.int .u64 ab] 192)).heap.size = w.heap.size + 1:=by simp
    rw [es] at HPU hbase
    clear K1 B1 HT K hf ho hpu es
    go_enter Tryz.func98,Tryz.ntmps98
    go_wp2_with (at_builtin; refine wpList_append_lies _ rfl (.tmp 38) (.tmp 40) 142 rfl (gd + 1) 192 i0 _ 4 32 Tryz.underlying142 hi0 hz0 hz1 hz2 rfl (by decide) v L.length _ rfl HO.out _ 1 1 [.int .i64 f,.int .i64 0,.int .i64 (k:Nat),.int .u64 ab] rfl rfl (cell_four_new _ _ _ _ (by simp)) (by simp [Value.oneCell']) (by decide) (by unfold maxLen; omega) (by omega) (by simp; omega) (w.heap.size + 1 + 1) (by simp) ?_; intro g cap w1 h2 h3 h4 h5; obtain ⟨q1,q2,hp1⟩:=HPU.out _ _ _ h2 h3 h4 h5; have HP1:Hid (∃ F',_∧_):=hp1; clear h2 h3 h4 h5 hp1)
    go_end0
    refine ⟨rfl, ?_⟩
    rw [show nds (wd S.1.m) r 0 3 k = [] from rfl,List.nil_append]
    obtain ⟨F',d1,k1⟩:=HP1.out
    exact ⟨F',d1,(kp_of_below _ HB1.out).trans k1⟩
  | succ l ih=>
    intro d k f hd hf w F L K1 hlen
    have hd3:d < 3:=by omega
    obtain ⟨hfn,hf4⟩:=K.lt hP hN hr (show d ≤ 3 by omega) hf
    have hk:k < 32768:=Nat.lt_of_lt_of_le (tb_lt hf) (by rcases (show d = 0 ∨ d = 1 ∨ d = 2 by omega) with rfl | rfl | rfl <;> decide)
    have HNC:Hid (nc (wd S.1.m) r (d,k) = [.int .i64 f,.int .i64 ((l:Nat) + 1:Int),.int .i64 (k:Nat),.int .u64 (abv (wd S.1.m) r (d,k):Nat)]):=by
      unfold Hid nc
      rw [hf]
      show [_,Value.int .i64 ((3 - d:Nat):Int),_,_] = _
      rw [show 3 - d = l + 1 by omega]
      rfl
    generalize abv (wd S.1.m) r (d,k) = ab at *
    have B1:Below w.heap.size w (w.alloc (.cells #[.int .i64 f,.int .i64 ((l:Nat) + 1:Int),.int .i64 (k:Nat),.int .u64 ab] 192)):=(Below.refl _ _).alloc (Nat.le_refl _) _
    have HB1:Hid (Below w.heap.size w (w.alloc (.cells #[.int .i64 f,.int .i64 ((l:Nat) + 1:Int),.int .i64 (k:Nat),.int .u64 ab] 192))):=B1
    have HD1:Hid (Dn B t gt gl gd (wd S.1.m) r (w.alloc (.cells #[.int .i64 f,.int .i64 ((l:Nat) + 1:Int),.int .i64 (k:Nat),.int .u64 ab] 192)) F L):=K1.below B1
    have HX1:Hid (C.Blk (w.alloc (.cells #[.int .i64 f,.int .i64 ((l:Nat) + 1:Int),.int .i64 (k:Nat),.int .u64 ab] 192)) w.heap.size 192 [.int .i64 f,.int .i64 ((l:Nat) + 1:Int),.int .i64 (k:Nat),.int .u64 ab]):=C.blk_new _ _ _
    have CE:Hid (∀ W,Below B.heap.size B W→Calls Tryz.prog 99 #[.pointer (some ⟨t,0,none⟩),.int .i64 f] W fun e w'=>e = .returned (.agg (es (wd S.1.m) f 32).toArray)∧Below W.heap.size W w'):=fun W hW=>entries_ok (HT.below hW).tv hfn (fun i hi=>K.may hP hr (by omega) hf hi)
    have HFL:Hid (∀ x,F x→x < w.heap.size):=fun x hx=>(K1.flt x hx).1
    have c1:=HD1.out.bt.cell 0
    simp only [List.getElem?_cons_zero] at c1
    clear K1 B1
    go_enter Tryz.func98,Tryz.ntmps98
    go_wp2_with fail
    refine (CE.out _ HD1.out.bl).mono ?_
    rintro e w2 ⟨rfl,hb⟩
    have HD2:Hid (Dn B t gt gl gd (wd S.1.m) r w2 F L):=HD1.out.below hb
    have HX2:Hid (C.Blk w2 w.heap.size 192 [.int .i64 f,.int .i64 ((l:Nat) + 1:Int),.int .i64 (k:Nat),.int .u64 ab]):=HX1.out.of_eq (hb.block _ HX1.out.lt)
    have HB2:Hid (Below w.heap.size w w2):=HB1.out.trans (hb.mono HB1.out.size)
    have HIX:Hid (∀ j,j < 32→∀ W:World,(Instr.index 193 (.agg (es (wd S.1.m) f 32).toArray) (.int .i64 (j:Nat))).run Tryz.prog W = .ok (.agg (ec (wd S.1.m f j)).toArray) W):=fun j hj W=>run_indexE _ _ j _ hj (es_drop _ _ hj) W
    clear hb c1 HD1 HX1 CE HB1
    generalize (es (wd S.1.m) f 32).toArray = A32 at *
    have hz:=(zero_of_info Tryz.infoN).1
    have HIN:Hid ((Tryz.prog.info? 32).map (·.size) = some 7):=(zero_of_info Tryz.infoN).2
    have HZS:Hid ((#[.bool false,.bool false,.bool false,.bool false,.bool false,.bool false,.int .i64 0]:Array Value).size = 7):=rfl
    generalize (#[.bool false,.bool false,.bool false,.bool false,.bool false,.bool false,.int .i64 0]:Array Value) = Z at *
    have hlen2:L.length + 32 * (nb l + 1) + 1 ≤ 40000:=hlen
    clear hlen
    go_wp2_with fail
    go_loopw [14] (fun i wr=>∃ j:Nat,j ≤ 32∧i = .int .i64 j∧∃ Fr,Dn B t gt gl gd (wd S.1.m) r wr Fr (L ++ ndn (wd S.1.m) r l d k j)∧C.Kp F Fr w2 wr) (fun i _=>32 - (D.iv i).toNat)
    case atStart=>exact ⟨0,by omega,rfl,F,by rw [show ndn (wd S.1.m) r l d k 0 = [] from rfl,List.append_nil]; exact HD2.out,C.Kp.refl _ _⟩
    case round=>
      obtain ⟨j,hj,rfl,Fr,hdr,hkr⟩:=hrel
      have HDr:Hid (Dn B t gt gl gd (wd S.1.m) r wr Fr (L ++ ndn (wd S.1.m) r l d k j)):=hdr
      have HKr:Hid (C.Kp F Fr w2 wr):=hkr
      have hg4:w.heap.size < w2.heap.size:=HX2.out.lt
      obtain ⟨o1,o2,o3⟩:=hkr.out hg4 (fun q=>Nat.lt_irrefl _ (HFL.out _ q))
      have HXr:Hid (C.Blk wr w.heap.size 192 [.int .i64 f,.int .i64 ((l:Nat) + 1:Int),.int .i64 (k:Nat),.int .u64 ab]):=HX2.out.of_eq o1
      have HFr:Hid (¬ Fr w.heap.size):=o2
      have hlr:=ndn_le (nds_le (W:=wd S.1.m) (r:=r) l) d k j
      clear hdr hkr o1 o2 o3 hg4 HD2
      by_cases hlt:j < 32
      case' pos=>
        have hd' : decide ((j:Int) < 32) = true:=by rw [decide_eq_true_eq]; omega
        have hix:=HIX.out j hlt
        have HA1:Hid ((ec (wd S.1.m f j)).toArray.toList = ec (wd S.1.m f j)):=rfl
        have HA2:Hid ((ec (wd S.1.m f j)).toArray.size = 7):=rfl
        have HA3:Hid ((ec (wd S.1.m f j)).toArray.all (·.oneCell') = true):=by unfold Hid; simp [ec,Value.oneCell']
        generalize (ec (wd S.1.m f j)).toArray = A at *
        have hx1:=(box_new wr 32 Z).whole A (by rw [Array.length_toList,HA2.out,HZS.out])
        rw [HA1.out] at hx1
        have HX1:Hid ((wr.alloc (.cells Z 32)).there wr.heap.size 0 A.size∧C.Blk ((wr.alloc (.cells Z 32)).setCells wr.heap.size 0 (ec (wd S.1.m f j))) wr.heap.size 32 (ec (wd S.1.m f j))):=hx1
        have c0:=hx1.2.cell 0
        have c6:=hx1.2.cell 6
        have HBx:Hid (Below wr.heap.size wr ((wr.alloc (.cells Z 32)).setCells wr.heap.size 0 (ec (wd S.1.m f j)))):=below_sets ((Below.refl _ _).alloc (Nat.le_refl _) _) _ (Nat.le_refl _) _ _
        simp only [ec,List.getElem?_cons_zero,List.getElem?_cons_succ] at c0 c6
        rw [← show ec (wd S.1.m f j) = [.bool (N.fb (wd S.1.m f j) 1),.bool (N.fb (wd S.1.m f j) 2),.bool (N.fb (wd S.1.m f j) 4),.bool (N.fb (wd S.1.m f j) 8),.bool (N.fb (wd S.1.m f j) 16),.bool (N.fb (wd S.1.m f j) 32),.int .i64 (wd S.1.m f j / 256)] from rfl] at c0 c6
        rw [← HA1.out] at HX1 c0 c6 HBx
        have HDx:Hid (Dn B t gt gl gd (wd S.1.m) r ((wr.alloc (.cells Z 32)).setCells wr.heap.size 0 A.toList) Fr (L ++ ndn (wd S.1.m) r l d k j)):=HDr.out.below HBx.out
        have HXx:Hid (C.Blk ((wr.alloc (.cells Z 32)).setCells wr.heap.size 0 A.toList) w.heap.size 192 [.int .i64 f,.int .i64 ((l:Nat) + 1:Int),.int .i64 (k:Nat),.int .u64 ab]):=HXr.out.of_eq (HBx.out.block _ HXr.out.lt)
        clear hx1
        rcases K.fo.wf r hr d k f hd3 hf j hlt with hv | ⟨g,hv⟩
        case' inl=>
          rw [hv,fb_nought.2.1] at c0
          have HS:Hid (ndn (wd S.1.m) r l d k (j + 1) = ndn (wd S.1.m) r l d k j):=by
            unfold Hid
            rw [ndn_succ,(K.fo.empty hr hd3 hf hlt).2 hv]
            simp
          clear hv c6
          go_wp2_with (refine wpList_store_mid rfl 32 (.tmp 6) (.tmp 17) rfl _ 0 A rfl rfl HX1.out.1 (by rw [HA2.out]; exact HIN.out) HA3.out ?_)
          go_roundw
          case rel=>exact ⟨j + 1,by omega,by go_num,Fr,by rw [HS.out]; exact HDx.out,HKr.out.trans (kp_of_below _ HBx.out)⟩
          case measure=>simp [D.iv]; omega
        case' inr=>
          have hnx:=(K.fo.next hr hd3 hf hlt).2 hv
          obtain ⟨hgn,hg4⟩:=K.lt hP hN hr (show d + 1 ≤ 3 by omega) hnx
          have hfl:=fb_link hv hg4
          rw [hfl.2.1] at c0
          rw [hfl.2.2] at c6
          have HS:Hid (ndn (wd S.1.m) r l d k (j + 1) = ndn (wd S.1.m) r l d k j ++ (nds (wd S.1.m) r l (d + 1) (k * 32 + j) ++ [(d + 1,k * 32 + j)])):=by
            unfold Hid
            rw [ndn_succ,hnx]
            simp
          have hab:abv (wd S.1.m) r (d + 1,k * 32 + j) = f * 256 + j * 8:=by
            unfold abv
            rw [if_neg (Nat.succ_ne_zero d)]
            show (tb (wd S.1.m) r d ((k * 32 + j) / 32)).getD 0 * 256 + (k * 32 + j) % 32 * 8 = _
            rw [show (k * 32 + j) / 32 = k by omega,show (k * 32 + j) % 32 = j by omega,hf]
            rfl
          have CI:=ih (d + 1) (k * 32 + j) g (by omega) hnx
          rw [hab] at CI
          have e2:((k * 32 + j:Nat):Int) = (k:Int) * 32 + (j:Int):=by push_cast; rfl
          rw [e2] at CI
          have hln:(L ++ ndn (wd S.1.m) r l d k j).length + nb l + 1 ≤ 40000:=by
            have:=Nat.mul_le_mul_right (nb l + 1) (show j ≤ 31 by omega)
            rw [List.length_append]
            omega
          have CP:Hid (∀ W,Calls _ _ _ W _):=fun W=>place_ok f j (by omega) hlt W
          have k0:=HXx.out.cell 0
          have k1:=HXx.out.cell 1
          have k2:=HXx.out.cell 2
          have kd:=HDx.out.bd.cell 0
          simp only [List.getElem?_cons_zero,List.getElem?_cons_succ] at k0 k1 k2 kd
          have hl3:(l:Int) ≤ 2:=by omega
          have HLX:Hid (wr.heap.size < ((wr.alloc (.cells Z 32)).setCells wr.heap.size 0 A.toList).heap.size):=HX1.out.2.lt
          have HFR:Hid (∀ x,Fr x→x < wr.heap.size∧x ≠ gd):=fun x hx=>⟨(HDr.out.flt x hx).1,(HDr.out.flt x hx).2.2.2⟩
          generalize f * 256 + j * 8 = y at *
          clear hv hnx hab e2 hfl ih
          go_wp2_with (refine wpList_store_mid rfl 32 (.tmp 6) (.tmp 17) rfl _ 0 A rfl rfl HX1.out.1 (by rw [HA2.out]; exact HIN.out) HA3.out ?_)
          generalize (wr.alloc (.cells Z 32)).setCells wr.heap.size 0 A.toList = wx at *
          have CX : Hid (Calls Tryz.prog 98 #[.agg #[.int .i64 (g : Nat), .int .i64 (l : Nat), .int .i64 ((k : Int) * 32 + (j : Int)), .int .u64 (y : Nat)], .pointer (some ⟨gt, 0, none⟩), .pointer (some ⟨gd, 0, none⟩), .pointer (some ⟨gl, 0, none⟩)] wx.drew fun e w3 => e = .returned (.tuple #[]) ∧ (∃ F3, Dn B t gt gl gd (wd S.1.m) r w3 F3 (L ++ ndn (wd S.1.m) r l d k (j + 1)) ∧ C.Kp F F3 w2 w3) ∧
              (w3.cell? ⟨gd,0,none⟩ = some (.func (.func 98) #[] #[.pointer (some ⟨gt,0,none⟩),.pointer (some ⟨gd,0,none⟩),.pointer (some ⟨gl,0,none⟩)])∧w3.cell? ⟨wr.heap.size,6,none⟩ = some (.int .i64 (g:Nat))∧w3.cell? ⟨w.heap.size,0,none⟩ = some (.int .i64 (f:Nat))∧w3.cell? ⟨w.heap.size,1,none⟩ = some (.int .i64 ((l:Nat) + 1:Int))∧w3.cell? ⟨w.heap.size,2,none⟩ = some (.int .i64 (k:Nat)))):=by
            refine (CI wx.drew Fr _ (HDx.out.below (Below.refl _ _).drew) hln).mono ?_
            rintro e w3 ⟨rfl,F3,d3,k3⟩
            have kp:∀ x i,x < wx.heap.size→¬ Fr x→w3.cell? ⟨x,i,none⟩ = wx.cell? ⟨x,i,none⟩:=fun x i hx hn=>World.cell?_of_block (w:=wx) (a:=⟨x,i,none⟩) (k3.block x hx hn)
            have n4:¬ Fr w.heap.size:=HFr.out
            have nx:¬ Fr wr.heap.size:=fun q=>Nat.lt_irrefl _ (HFR.out _ q).1
            have nd' : ¬ Fr gd:=fun q=>(HFR.out _ q).2 rfl
            refine ⟨rfl,⟨F3,by rw [HS.out, ← List.append_assoc]; exact d3,(HKr.out.trans (kp_of_below _ HBx.out.drew)).trans k3⟩, ?_⟩
            rw [kp _ _ HDx.out.bd.lt nd',kp _ _ HLX.out nx,kp _ _ HXx.out.lt n4,kp _ _ HXx.out.lt n4,kp _ _ HXx.out.lt n4]
            exact ⟨kd,c6,k0,k1,k2⟩
          have HW1:Hid (IntKind.i64.wrap (l:Int) = (l:Int)):=IntWalk.i64_in _ (by omega)
          have HW2:Hid (IntKind.i64.wrap ((k:Int) * 32) = (k:Int) * 32):=IntWalk.i64_in _ (by omega)
          have HW3:Hid (IntKind.i64.wrap ((k:Int) * 32 + (j:Int)) = (k:Int) * 32 + (j:Int)):=IntWalk.i64_in _ (by omega)
          clear CI
          go_region_held3 (fun W=>W.cell? ⟨gd,0,none⟩ = some (.func (.func 98) #[] #[.pointer (some ⟨gt,0,none⟩),.pointer (some ⟨gd,0,none⟩),.pointer (some ⟨gl,0,none⟩)])∧W.cell? ⟨wr.heap.size,6,none⟩ = some (.int .i64 (g:Nat))∧W.cell? ⟨w.heap.size,0,none⟩ = some (.int .i64 (f:Nat))∧W.cell? ⟨w.heap.size,1,none⟩ = some (.int .i64 ((l:Nat) + 1:Int))∧W.cell? ⟨w.heap.size,2,none⟩ = some (.int .i64 (k:Nat)))
            (first | exact ⟨kd,c6,k0,k1,k2⟩ | exact HS1.out)
            (first
              | (go_at_call 100; refine (CP.out _).mono ?_; rintro e w' ⟨rfl,rfl⟩)
              | (go_at_call 98; rw [HW1.out,HW2.out,HW3.out]; refine CX.out.mono ?_; rintro e w3 ⟨rfl,hq,hs⟩; have HQ:Hid (∃ F3,Dn B t gt gl gd (wd S.1.m) r w3 F3 (L ++ ndn (wd S.1.m) r l d k (j + 1))∧C.Kp F F3 w2 w3):=hq; have HS1:Hid (_∧_∧_∧_∧_):=hs; clear hq hs))
          go_wp2
          go_roundw
          case rel=>
            obtain ⟨F3,d3,k3⟩:=HQ.out
            exact ⟨j + 1,by omega,by go_num,F3,d3,k3⟩
          case measure=>simp [D.iv]; omega
      case' neg=>
        obtain rfl:j = 32:=by omega
        obtain ⟨v,cv,hbase,ho,hpu⟩:=HDr.out.tail HNC.out
        have HO:Hid (World.ownsRow _ _ _ _ _ _ _):=ho
        have HPU:Hid (∀ w' g cap,_→_→_→_→_∧_∧∃ F',_∧_):=hpu
        have k0:=HXr.out.cell 0
        have k1:=HXr.out.cell 1
        have k2:=HXr.out.cell 2
        have k3:=HXr.out.cell 3
        simp only [List.getElem?_cons_zero,List.getElem?_cons_succ] at k0 k1 k2 k3
        obtain ⟨i0,hi0,hz0,hz1,hz2⟩:=info_parts Tryz.infoD
        have hln:(L ++ ndn (wd S.1.m) r l d k 32).length + 1 ≤ 40000:=by
          rw [List.length_append]
          omega
        clear HT K hf ho hpu hz ih HIX
        go_wp2_with (at_builtin; refine wpList_append_lies _ rfl (.tmp 38) (.tmp 40) 142 rfl (gd + 1) 192 i0 _ 4 32 Tryz.underlying142 hi0 hz0 hz1 hz2 rfl (by decide) v (L ++ ndn (wd S.1.m) r l d k 32).length _ rfl HO.out _ 1 1 [.int .i64 f,.int .i64 ((l:Nat) + 1:Int),.int .i64 (k:Nat),.int .u64 ab] rfl rfl (cell_four_new _ _ _ _ (by simp)) (by simp [Value.oneCell']) (by decide) (by unfold maxLen; omega) (by omega) (by simp; omega) (wr.heap.size + 1) (by simp) ?_; intro g cap w1 h2 h3 h4 h5; obtain ⟨q1,q2,hp1⟩:=HPU.out _ _ _ h2 h3 h4 h5; have HP1:Hid (∃ F',_∧_):=hp1; clear h2 h3 h4 h5 hp1)
        go_end0
        refine ⟨rfl, ?_⟩
        rw [nds_all, ← List.append_assoc]
        obtain ⟨F',d1,k1⟩:=HP1.out
        rw [List.length_append] at d1 k1
        exact ⟨F',d1,((kp_of_below _ HB2.out).trans HKr.out).trans k1⟩
def ndr (W:Nat→Nat→Int) (r:Nat):List (Nat × Nat):=nds W r 3 0 0 ++ [(0,0)]
theorem ndr_le (W:Nat→Nat→Int) (r:Nat):(ndr W r).length ≤ 33825:=by
  have:=nds_le (W:=W) (r:=r) 3 0 0
  have e:nb 3 = 33824:=by decide
  rw [ndr,List.length_append,List.length_singleton]
  omega
theorem row_base {w:World} {base base' : Nat} {ty:TypeId} {k n:Nat} {v:Value} {L:List Value} (h:w.ownsRow base ty k v n L) (hb:base' ≤ base):w.ownsRow base' ty k v n L:=by
  obtain ⟨h0,h1 | ⟨g',cap,cur,e,hb',r⟩⟩:=h
  · exact ⟨h0,Or.inl h1⟩
  · exact ⟨h0,Or.inr ⟨g',cap,cur,e,by omega,r⟩⟩
theorem nodes_ok {P : Par} (hP : P.Ok) {R : Nat → Prop} {S : Sc × Us} (K : Ok P R S) {h : Hw} (hN : P.N * P.C ≤ h.n) {r : Nat} (hr : R r) {w w1 : World} {X : Nat → Prop} {t c p : Nat} {m : Nat → Option Nat} (T : Tv w X t c p h P S m w1) :
    Calls Tryz.prog 56 #[.pointer (some ⟨t,0,none⟩),.int .i64 (r:Nat)] w1 fun e w'=>∃ v,e = .returned v∧w'.ownsRow w1.heap.size 192 4 v (ndr (wd S.1.m) r).length (enN (wd S.1.m) r (ndr (wd S.1.m) r))∧Below w1.heap.size w1 w':=by
  obtain ⟨X1,T1,_⟩:=T
  have hmf:∀ (fn:Fn) (first cap:Array Value) (w:World),(Instr.makeFunc fn first cap).run Tryz.prog w = .ok (.func fn first cap) w:=fun _ _ _ _=>rfl
  have HD:Hid (Dn w1 t w1.heap.size (w1.heap.size + 1) (w1.heap.size + 1 + 1) (wd S.1.m) r (((w1.alloc (.cells #[.pointer (some ⟨t,0,none⟩)] 25)).alloc (.cells #[.slice none 0 0] 142)).alloc (.cells #[.func (.func 98) #[] #[.pointer (some ⟨w1.heap.size,0,none⟩),.pointer (some ⟨w1.heap.size + 1 + 1,0,none⟩),.pointer (some ⟨w1.heap.size + 1,0,none⟩)]] 190)) (fun x=>x = w1.heap.size + 1) []):=by
    have b1:=C.blk_new w1 [.pointer (some ⟨t,0,none⟩)] 25
    have b2:=C.blk_new (w1.alloc (.cells #[.pointer (some ⟨t,0,none⟩)] 25)) [.slice none 0 0] 142
    have b3:=C.blk_new ((w1.alloc (.cells #[.pointer (some ⟨t,0,none⟩)] 25)).alloc (.cells #[.slice none 0 0] 142)) [.func (.func 98) #[] #[.pointer (some ⟨w1.heap.size,0,none⟩),.pointer (some ⟨w1.heap.size + 1 + 1,0,none⟩),.pointer (some ⟨w1.heap.size + 1,0,none⟩)]] 190
    have e1:(w1.alloc (.cells #[.pointer (some ⟨t,0,none⟩)] 25)).heap.size = w1.heap.size + 1:=by simp
    have e2:((w1.alloc (.cells #[.pointer (some ⟨t,0,none⟩)] 25)).alloc (.cells #[.slice none 0 0] 142)).heap.size = w1.heap.size + 1 + 1:=by simp
    rw [e1] at b2
    rw [e2] at b3
    exact ⟨(below2 w1 _ _).alloc (by rw [e2]; omega) _,(b1.of_eq (heap_alloc_old _ _ b1.lt)).of_eq (heap_alloc_old _ _ (by rw [e2]; omega)),b3,⟨_,b2.of_eq (heap_alloc_old _ _ (by rw [e2]; omega)),World.ownsRow_nil _ _ _ _,fun x=>by simp [Value.ownBlock]⟩,Nat.le_refl _,by omega,by omega⟩
  have CD:Hid (Calls Tryz.prog 98 #[.agg #[.int .i64 (r:Nat),.int .i64 3,.int .i64 0,.int .u64 0],.pointer (some ⟨w1.heap.size,0,none⟩),.pointer (some ⟨w1.heap.size + 1 + 1,0,none⟩),.pointer (some ⟨w1.heap.size + 1,0,none⟩)] _ _):=down_ok hP K hN hr T1 w1.heap.size (w1.heap.size + 1) (w1.heap.size + 1 + 1) 3 0 0 r (by omega) rfl _ _ _ HD.out (by decide)
  have HL:Hid (∀ W F,Dn w1 t w1.heap.size (w1.heap.size + 1) (w1.heap.size + 1 + 1) (wd S.1.m) r W F ([] ++ ndr (wd S.1.m) r)→∃ v,W.cell? ⟨w1.heap.size + 1,0,none⟩ = some v∧W.ownsRow w1.heap.size 192 4 v (ndr (wd S.1.m) r).length (enN (wd S.1.m) r (ndr (wd S.1.m) r))∧Below w1.heap.size w1 W):=fun W F d=>by
    rw [List.nil_append] at d
    obtain ⟨v,bv,ov,_⟩:=d.rw'
    exact ⟨v,bv.cell 0,row_base ov (by omega),d.bl⟩
  have kd:=HD.out.bd.cell 0
  simp only [List.getElem?_cons_zero] at kd
  have hst:∀ v:Value,v.oneCell' = true→(store ⟨w1.heap.size + 1 + 1,0,none⟩ v).run Tryz.prog (((w1.alloc (.cells #[.pointer (some ⟨t,0,none⟩)] 25)).alloc (.cells #[.slice none 0 0] 142)).alloc (.cells #[.nilFunc] 190)) = .ok () ((((w1.alloc (.cells #[.pointer (some ⟨t,0,none⟩)] 25)).alloc (.cells #[.slice none 0 0] 142)).alloc (.cells #[.nilFunc] 190)).setCell ⟨w1.heap.size + 1 + 1,0,none⟩ v):=fun v hv=>by
    have b3:=C.blk_new ((w1.alloc (.cells #[.pointer (some ⟨t,0,none⟩)] 25)).alloc (.cells #[.slice none 0 0] 142)) [.nilFunc] 190
    rw [show ((w1.alloc (.cells #[.pointer (some ⟨t,0,none⟩)] 25)).alloc (.cells #[.slice none 0 0] 142)).heap.size = w1.heap.size + 1 + 1 by simp] at b3
    rw [run_store _ _ _ _ _ hv,b3.cell,b3.frozen]
    rfl
  have hst2:=hst (.func (.func 98) #[] #[.pointer (some ⟨w1.heap.size,0,none⟩),.pointer (some ⟨w1.heap.size + 1 + 1,0,none⟩),.pointer (some ⟨w1.heap.size + 1,0,none⟩)]) rfl
  clear K T1 hst
  go_enter Tryz.func56,Tryz.ntmps56
  go_wp2_with (go_at_call 98; refine CD.out.mono ?_; rintro e w3 ⟨rfl,F',d3,k3⟩; obtain ⟨v,cv,ho,hb⟩:=HL.out _ _ d3; have HO:Hid (World.ownsRow _ _ _ _ _ _ _):=ho; have HB:Hid (Below w1.heap.size w1 w3):=hb; clear d3 k3 ho hb)
  go_ret
  exact ⟨v,rfl,HO.out,HB.out⟩
end Go.Proofs.YtgljdbabagdhlaaGreat.Pg
