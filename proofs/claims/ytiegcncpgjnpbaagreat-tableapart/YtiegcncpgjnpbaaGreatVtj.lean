/- TableApart walked: two roots share nothing. -/
import Derived.Test.YtiegcncpgjnpbaaGreatVti
import Derived.Deep.QuietTactic
import Derived.BigQuiet
namespace Go.Proofs.YtiegcncpgjnpbaaGreat.Pg
open P E Go.ChangeShapes Go.WideShapes Go.ChangeAt Go.RowKit
set_option linter.unusedVariables false
set_option maxRecDepth 8192

theorem Within_any (k n : Int) (h0 : 0 < n) (h1 : n < 4611686018427387904) (hk0 : -9223372036854775808 ≤ k) (hk1 : k < 9223372036854775808) (w : World) :
    Calls Tryz.prog 10 #[.int .i64 k, .int .i64 n] w fun e w' => e = .returned (.int .i64 (k % n)) ∧ w' = w := by
  have h2 : -n < k.tmod n := Int.lt_tmod_of_pos k h0
  have h3 : k.tmod n < n := Int.tmod_lt_of_pos k h0
  have HE : Hid (k % n = if k.tmod n < 0 then k.tmod n + n else k.tmod n) := by
    unfold Hid
    have e : k % n = (k.tmod n) % n := by
      rw [Int.tmod_eq_emod]
      split
      · simp
      · rw [Int.natAbs_of_nonneg (by omega), Int.sub_emod_right, Int.emod_emod]
    rw [e]
    split
    · rw [← Int.add_emod_right]
      exact Int.emod_eq_of_lt (by omega) (by omega)
    · exact Int.emod_eq_of_lt (by omega) (by omega)
  rw [HE.out]
  clear HE
  by_cases hn : k.tmod n < 0
  · rw [if_pos hn]
    go_enter Tryz.func10, Tryz.ntmps10
    go_wp2
    go_ret
    exact ⟨rfl, rfl⟩
  · rw [if_neg hn]
    go_enter Tryz.func10, Tryz.ntmps10
    go_wp2
    go_ret
    exact ⟨rfl, rfl⟩
def rt (a b k : Nat) : Nat := if k = 0 then a else b
theorem ne_self (p s r u a d : Bool) (t : Int) (W : World) : (binOp .neq 38 (.agg #[.bool p, .bool s, .bool r, .bool u, .bool a, .bool d, .int .i64 t]) (.agg #[.bool p, .bool s, .bool r, .bool u, .bool a, .bool d, .int .i64 t])).run Tryz.prog W = .ok (.bool false) W := by rw [N.ne_run, N.eqE_self]; rfl
structure Ap (w0 w : World) (t c p a b gr gs : Nat) (S : E.Sc × Us) (m : Nat → Option Nat) (V : Nat → Int) : Prop where
  ts : Ts w0 (fun k => k = gr ∨ k = gs) t c p (hwOf us) (par us 0) S m w
  lo : w0.heap.size ≤ gs
  ne : a ≠ b
  gn : gr ≠ gs
  cu : cU S.2 3 4096 = 8
  r : ∀ k, k < 2 → m (rt a b k) ≠ none
  al : ∀ k, k < 2 → all (pr (wd S.1.m) (rt a b k)) = 4
  f : ∀ k, k < 2 → pr (wd S.1.m) (rt a b k) 3 0 = true
  v : ∀ k q, k < 2 → 1 ≤ q → q < 4 → V (k * 4 + q) = pw (wd S.1.m) (rt a b k) q
  br : C.Blk w gr 3 [.int .i64 (a : Nat), .int .i64 (b : Nat)]
  bs : C.Blk w gs 104 (es (fun _ => V) 0 8)
theorem Ap.to {w0 w w' : World} {t c p a b gr gs : Nat} {S : E.Sc × Us} {m : Nat → Option Nat} {V : Nat → Int} (A : Ap w0 w t c p a b gr gs S m V) (K : Ts w0 (fun k => k = gr ∨ k = gs) t c p (hwOf us) (par us 0) S m w') (s : Sm (fun k => k = gr ∨ k = gs) w w') : Ap w0 w' t c p a b gr gs S m V := ⟨K, A.lo, A.ne, A.gn, A.cu, A.r, A.al, A.f, A.v, A.br.of_eq (s _ (Or.inl rfl)), A.bs.of_eq (s _ (Or.inr rfl))⟩
theorem Ap.below {w0 w w' : World} {t c p a b gr gs : Nat} {S : E.Sc × Us} {m : Nat → Option Nat} {V : Nat → Int} (A : Ap w0 w t c p a b gr gs S m V) (h : Below w.heap.size w w') : Ap w0 w' t c p a b gr gs S m V := A.to (A.ts.below h) (A.ts.zt.sm h)
theorem Ap.get {w0 w : World} {t c p a b gr gs : Nat} {S : E.Sc × Us} {m : Nat → Option Nat} {V : Nat → Int} (A : Ap w0 w t c p a b gr gs S m V) {k q : Nat} (hk : k < 2) (h1 : 1 ≤ q) (h4 : q < 4) : Calls Tryz.prog 32 #[.pointer (some ⟨t, 0, none⟩), .int .i64 (rt a b k : Nat), .int .i64 (q : Nat)] w fun e w' => e = .returned (.tuple #[.agg #[.bool (N.fb (V (k * 4 + q)) 1), .bool (N.fb (V (k * 4 + q)) 2), .bool (N.fb (V (k * 4 + q)) 4), .bool (N.fb (V (k * 4 + q)) 8), .bool (N.fb (V (k * 4 + q)) 16), .bool (N.fb (V (k * 4 + q)) 32), .int .i64 ((V (k * 4 + q)) / 256)], .int .i64 0]) ∧ Ap w0 w' t c p a b gr gs S m V := by
  refine (A.ts.get (A.r k hk) (pg := q) (by omega)).mono ?_
  rintro e w' ⟨rfl, K, s⟩
  rw [← A.v k q hk h1 h4]
  exact ⟨rfl, A.to K s⟩
theorem Ap.cell {w0 w : World} {t c p a b gr gs : Nat} {S : E.Sc × Us} {m : Nat → Option Nat} {V : Nat → Int} (A : Ap w0 w t c p a b gr gs S m V) {k : Nat} (hk : k < 2) : w.cell? ⟨gr, k, none⟩ = some (.int .i64 (rt a b k : Nat)) := by
  rw [A.br.cell]
  rcases two_lt hk with rfl | rfl <;> rfl
theorem Ap.range {w0 w : World} {t c p a b gr gs : Nat} {S : E.Sc × Us} {m : Nat → Option Nat} {V : Nat → Int} (A : Ap w0 w t c p a b gr gs S m V) {k q : Nat} (hk : k < 2) (h4 : q < 4) : w.rangeAt gs (k * 28 + q * 7) (ec (V (k * 4 + q))) := fun j v hv => by
  have e := es_drop (fun _ => V) 0 (i := k * 4 + q) (n := 8) (by omega)
  have hj : j < 7 := by
    have := (List.getElem?_eq_some_iff.1 hv).1
    exact this
  have := A.bs.range (k * 28 + q * 7 + j) v (by
    rw [← e, List.getElem?_take_of_lt hj, List.getElem?_drop] at hv
    rw [← hv]
    congr 1
    omega)
  rw [Nat.zero_add] at this
  exact this
theorem es_same {V V' : Nat → Int} : ∀ {n : Nat}, (∀ j, j < n → V' j = V j) → es (fun _ => V') 0 n = es (fun _ => V) 0 n
  | 0, _ => rfl
  | n + 1, h => by
    rw [es, es, es_same (fun j hj => h j (by omega)), h n (by omega)]
theorem es_put {V : Nat → Int} {i : Nat} (v : Int) : ∀ {n : Nat}, i < n → (es (fun _ => V) 0 n).take (i * 7) ++ ec v ++ (es (fun _ => V) 0 n).drop (i * 7 + (ec v).length) = es (fun _ => fun j => if j = i then v else V j) 0 n
  | 0, h => absurd h (by omega)
  | n + 1, h => by
    have e7 : (ec v).length = 7 := rfl
    have hl := es_len (fun _ => V) 0 n
    rw [es, es, e7]
    by_cases hn : i = n
    · subst hn
      rw [List.take_append_of_le_length (by omega), List.take_of_length_le (by omega), List.drop_of_length_le (by rw [List.length_append, hl]; simp only [ec, List.length_cons, List.length_nil]; omega), List.append_nil, if_pos rfl]
      rw [es_same (V := V) (V' := fun j => if j = i then v else V j) (fun j hj => if_neg (by omega))]
    · rw [List.take_append_of_le_length (by omega), List.drop_append_of_le_length (by omega), if_neg (by omega), ← es_put v (show i < n by omega), e7, List.append_assoc, List.append_assoc, List.append_assoc]
theorem Ap.set {w0 w : World} {t c p a b gr gs : Nat} {S : E.Sc × Us} {m : Nat → Option Nat} {V : Nat → Int} (A : Ap w0 w t c p a b gr gs S m V) {k q : Nat} (hk : k < 2) (h1 : 1 ≤ q) (h4 : q < 4) {x : Int} (h0 : 0 ≤ x) (h5 : x ≤ 4095) {W : World} (hW : Below (w.alloc (.cells #[.bool true, .bool false, .bool true, .bool false, .bool false, .bool false, .int .i64 x] 38)).heap.size (w.alloc (.cells #[.bool true, .bool false, .bool true, .bool false, .bool false, .bool false, .int .i64 x] 38)) W) :
    Calls Tryz.prog 29 #[.pointer (some ⟨t, 0, none⟩), .int .i64 (rt a b k : Nat), .int .i64 (q : Nat), .agg #[.bool true, .bool false, .bool true, .bool false, .bool false, .bool false, .int .i64 x]] W fun e w' => e = .returned (.int .i64 0) ∧ C.Blk w' w.heap.size 38 [.bool true, .bool false, .bool true, .bool false, .bool false, .bool false, .int .i64 x] ∧ w'.there gs (k * 28 + q * 7) 7 ∧ ∃ S' V', Ap w0 (w'.setCells gs (k * 28 + q * 7) [.bool true, .bool false, .bool true, .bool false, .bool false, .bool false, .int .i64 x]) t c p a b gr gs S' m V' := by
  obtain ⟨K0, s0⟩ := A.ts.make (.cells #[.bool true, .bool false, .bool true, .bool false, .bool false, .bool false, .int .i64 x] 38)
  have b0 := C.blk_new w [.bool true, .bool false, .bool true, .bool false, .bool false, .bool false, .int .i64 x] 38
  have K1 := K0.below hW
  have s1 : Sm (fun k => k = gr ∨ k = gs) w W := s0.trans ((K0.zt.sm hW).less fun _ => Or.inl)
  have b1 := b0.of_eq (hW.block _ b0.lt)
  have hmy : N.may true false true false false false x = true := by simp [N.may, N.mb, h0, h5]
  refine (K1.set (A.r k hk) (pg := q) (by omega) true false true false false false x hmy (by rw [show q / 32 = 0 by omega]; exact A.f k hk)).mono ?_
  rintro e w' ⟨rfl, S', DS, K, s⟩
  have sz : Sm (fun k => k = gr ∨ k = gs) w w' := s1.trans (s.less fun _ => Or.inl)
  have bs := A.bs.of_eq (sz gs (Or.inr rfl))
  have br := A.br.of_eq (sz gr (Or.inl rfl))
  have ho : k * 28 + q * 7 = (k * 4 + q) * 7 := by omega
  have ew := ec_word (p := true) (s := false) (r := true) (u := false) (a := false) (d := false) h0 h5
  have hpr : ∀ j, j < 2 → ∀ d n, d ≤ 3 → pr (wd S'.1.m) (rt a b j) d n = pr (wd S.1.m) (rt a b j) d n := fun j hj d n hd => by unfold pr; rw [DS.tb _ (A.r j hj) d n hd]
  have hth : w'.there gs (k * 28 + q * 7) 7 := by
    intro j hj
    rw [bs.cell, bs.frozen]
    refine ⟨?_, rfl⟩
    rw [List.getElem?_eq_getElem (by rw [es_len]; omega)]
    rfl
  have hst := C.Blk.sets (ec (N.lo true false true false false false + x * 256)) ((k * 4 + q) * 7) w' _ bs (by rw [es_len]; simp only [ec, List.length_cons, List.length_nil]; omega)
  rw [es_put _ (by omega), ew, ← ho] at hst
  refine ⟨rfl, b1.of_eq (s _ (Or.inr rfl)), hth, S', fun j => if j = k * 4 + q then N.lo true false true false false false + x * 256 else V j, ?_⟩
  have gw : w'.grownBy (w'.setCells gs (k * 28 + q * 7) [.bool true, .bool false, .bool true, .bool false, .bool false, .bool false, .int .i64 x]) (some gs) := C.grown_setCells _ _ _ _
  refine ⟨(K.less fun _ => Or.inl).wrote (Or.inr rfl) A.lo gw, A.lo, A.ne, A.gn, by rw [DS.us]; exact A.cu, A.r, fun j hj => (cn_ext (fun d n _ hd => hpr j hj d n hd)).trans (A.al j hj), fun j hj => (hpr j hj 3 0 (by decide)).trans (A.f j hj), fun j n hj hn1 hn4 => ?_, br.of_eq (sets_other _ _ A.gn _ _ _), hst⟩
  rw [DS.pw _ n (A.r j hj)]
  by_cases e : j = k ∧ n = q
  · rw [if_pos (by rw [e.1, e.2]), if_pos (by rw [e.1, e.2]; exact ⟨rfl, rfl⟩)]
  · rw [if_neg (by omega), if_neg, A.v j n hj hn1 hn4]
    rintro ⟨z1, z2⟩
    refine e ⟨?_, z2⟩
    unfold rt at z1
    have := A.ne
    by_cases j0 : j = 0
    · by_cases k0 : k = 0
      · omega
      · rw [if_pos j0, if_neg k0] at z1; exact absurd z1 this
    · by_cases k0 : k = 0
      · rw [if_neg j0, if_pos k0] at z1; exact absurd z1.symm this
      · omega
end Go.Proofs.YtiegcncpgjnpbaaGreat.Pg
namespace Go.Proofs.YtiegcncpgjnpbaaGreat.Pg
open P E Go.ChangeShapes Go.WideShapes Go.ChangeAt Go.RowKit
set_option linter.unusedVariables false
set_option maxRecDepth 8192

theorem Tryz.info24 : (Tryz.prog.info? 104).map (fun i => (i.zero, i.size)) = some (some (.agg (es (fun _ _ => 0) 0 8).toArray), 56) := by kernel_rfl
structure Aq (w0 w : World) (t c p a b : Nat) (S : E.Sc × Us) (m : Nat → Option Nat) : Prop where
  ts : Ts w0 (fun _ => False) t c p (hwOf us) (par us 0) S m w
  ne : a ≠ b
  cu : cU S.2 3 4096 = 8
  r : ∀ k, k < 2 → m (rt a b k) ≠ none
  al : ∀ k, k < 2 → all (pr (wd S.1.m) (rt a b k)) = 4
  f : ∀ k, k < 2 → pr (wd S.1.m) (rt a b k) 3 0 = true
  v : ∀ k q, k < 2 → pw (wd S.1.m) (rt a b k) q = 0
theorem Aq.ap {w0 w : World} {t c p a b : Nat} {S : E.Sc × Us} {m : Nat → Option Nat} (A : Aq w0 w t c p a b S m) (x : Obj) (hx : x = .cells #[.int .i64 (a : Nat), .int .i64 (b : Nat)] 3) (y : Obj) (hy : y = .cells (es (fun _ _ => 0) 0 8).toArray 104) : Ap w0 ((w.alloc x).alloc y) t c p a b w.heap.size (w.heap.size + 1) S m (fun _ => 0) := by
  subst hx
  subst hy
  have b1 := C.blk_new w [.int .i64 (a : Nat), .int .i64 (b : Nat)] 3
  have b2 := C.blk_new (w.alloc (.cells #[.int .i64 (a : Nat), .int .i64 (b : Nat)] 3)) (es (fun _ _ => 0) 0 8) 104
  have e1 : (w.alloc (.cells #[.int .i64 (a : Nat), .int .i64 (b : Nat)] 3)).heap.size = w.heap.size + 1 := by simp
  rw [e1] at b2
  have k := ((A.ts.make (.cells #[.int .i64 (a : Nat), .int .i64 (b : Nat)] 3)).1.make (.cells (es (fun _ _ => 0) 0 8).toArray 104)).1
  rw [e1] at k
  refine ⟨k.less (fun j hj => hj.imp Or.inr id), Nat.le_succ_of_le A.ts.zt.be.size, A.ne, by omega, A.cu, A.r, A.al, A.f, fun j q hj _ _ => (A.v j q hj).symm, b1.of_eq (heap_alloc_old _ _ (by rw [e1]; omega)), b2⟩
theorem rt0 (a b : Nat) : rt a b 0 = a := rfl
theorem rt1 (a b : Nat) : rt a b 1 = b := rfl
theorem Rootd.no_pw {P : Par} {S S' : E.Sc × Us} {m : Nat → Option Nat} {g : Nat} (D : Rootd P m g S S') (q : Nat) : Pg.pw (wd S'.1.m) g q = 0 := pw_none ((D.me 3 (q / 32)).trans (if_neg (by omega)))
theorem aq_of {w0 w : World} {t c p a b : Nat} {S0 S1 S2 S3 S4 : E.Sc × Us} (D1 : Rootd (par us 0) (fun _ => none) a S0 S1) (F2 : Fitd (par us 0) (fun x => B.pt (fun _ => none) a (some 0) x ≠ none) a [(1, 3)] S1 S2) (D3 : Rootd (par us 0) (B.pt (fun _ => none) a (some 0)) b S2 S3) (F4 : Fitd (par us 0) (fun x => B.pt (B.pt (fun _ => none) a (some 0)) b (some 0) x ≠ none) b [(1, 3)] S3 S4)
    (h0 : cU S0.2 3 4096 = 0) (K : Ts w0 (fun _ => False) t c p (hwOf us) (par us 0) S4 (B.pt (B.pt (fun _ => none) a (some 0)) b (some 0)) w) : Aq w0 w t c p a b S4 (B.pt (B.pt (fun _ => none) a (some 0)) b (some 0)) := by
  have ra := pt_same (fun _ => none) a
  have hne : a ≠ b := fun e => by subst e; exact ra D3.no
  have rb := pt_same (B.pt (fun _ => none) a (some 0)) b
  have ra2 : B.pt (B.pt (fun _ => none) a (some 0)) b (some 0) a ≠ none := by
    rw [show B.pt (B.pt (fun _ => none) a (some 0)) b (some 0) a = B.pt (fun _ => none) a (some 0) a by unfold B.pt; rw [if_neg hne]]
    exact ra
  have c1 := D1.cu
  have c2 := F2.cu
  have c3 := D3.cu
  have c4 := F4.cu
  rw [D1.all, total13] at c2
  rw [D3.all, total13] at c4
  have pa : ∀ d k, d ≤ 3 → pr (wd S4.1.m) a d k = pr (wd S2.1.m) a d k := fun d k hd => by unfold pr; rw [F4.ot a ra2 hne d k hd, D3.ot a ra d k hd]
  refine ⟨K, hne, by omega, fun k hk => ?_, fun k hk => ?_, fun k hk => ?_, fun k q hk => ?_⟩
  · rcases two_lt hk with rfl | rfl
    · exact ra2
    · exact rb
  · rcases two_lt hk with rfl | rfl
    · exact (cn_ext (fun d k _ hd => pa d k hd)).trans (F2.all.trans total13)
    · exact F4.all.trans total13
  · rcases two_lt hk with rfl | rfl
    · exact (pa 3 0 (by decide)).trans ((F2.has 3 0 (by decide) (by decide)).trans (by decide))
    · exact (F4.has 3 0 (by decide) (by decide)).trans (by decide)
  · rcases two_lt hk with rfl | rfl
    · rw [rt0, F4.pw a q ra2, if_neg (fun e => hne e.1), D3.pw a q ra, F2.pw a q ra, D1.no_pw, ite_self]
    · rw [rt1, F4.pw b q rb, D3.no_pw, ite_self]
end Go.Proofs.YtiegcncpgjnpbaaGreat.Pg
namespace Go.Proofs.YtiegcncpgjnpbaaGreat.Pg
open P E Go.ChangeShapes Go.WideShapes Go.ChangeAt Go.RowKit
set_option linter.unusedVariables false
set_option maxRecDepth 8192

structure Az (w0 w : World) (t c p a b gs : Nat) (S : E.Sc × Us) (m : Nat → Option Nat) (x : Int) : Prop where
  ts : Ts w0 (fun k => k = gs) t c p (hwOf us) (par us 0) S m w
  r : m b ≠ none
  no : m a = none
  cu : cU S.2 3 4096 = 4
  v : x = pw (wd S.1.m) b 1
  rg : w.rangeAt gs 35 (ec x)
theorem range_block {w w' : World} {g o : Nat} {cs : List Value} (h : w.rangeAt g o cs) (e : w'.heap[g]? = w.heap[g]?) : w'.rangeAt g o cs := fun j v hv => (World.cell?_of_block (a := ⟨g, o + j, none⟩) e).trans (h j v hv)
theorem Az.sm {w0 w w' : World} {t c p a b gs : Nat} {S : E.Sc × Us} {m : Nat → Option Nat} {x : Int} (A : Az w0 w t c p a b gs S m x) (K : Ts w0 (fun k => k = gs) t c p (hwOf us) (par us 0) S m w') (s : Sm (fun k => k = gs) w w') : Az w0 w' t c p a b gs S m x := ⟨K, A.r, A.no, A.cu, A.v, range_block A.rg (s gs rfl)⟩
theorem Az.below {w0 w w' : World} {t c p a b gs : Nat} {S : E.Sc × Us} {m : Nat → Option Nat} {x : Int} (A : Az w0 w t c p a b gs S m x) (h : Below w.heap.size w w') : Az w0 w' t c p a b gs S m x := A.sm (A.ts.below h) (A.ts.zt.sm h)
theorem Ap.drop {w0 w : World} {t c p a b gr gs : Nat} {S : E.Sc × Us} {m : Nat → Option Nat} {V : Nat → Int} (A : Ap w0 w t c p a b gr gs S m V) : Calls Tryz.prog 33 #[.pointer (some ⟨t, 0, none⟩), .int .i64 (a : Nat)] w fun e w' => e = .returned (.tuple #[.int .i64 4, .int .i64 0]) ∧ ∃ S' m', Az w0 w' t c p a b gs S' m' (V 5) := by
  have ra : m a ≠ none := A.r 0 (by decide)
  have rb : m b ≠ none := A.r 1 (by decide)
  have ha : all (pr (wd S.1.m) a) = 4 := A.al 0 (by decide)
  refine (A.ts.drop ra).mono ?_
  rintro e w' ⟨rfl, S', DD, K, s⟩
  have hc : cU S'.2 3 4096 = 4 := by
    have := DD.cu
    rw [ha, A.cu] at this
    omega
  refine ⟨by rw [ha]; rfl, S', _, K.less (fun k hk => Or.inr hk), ?_, ?_, hc, ?_, ?_⟩
  · unfold B.pt
    rw [if_neg (fun e => A.ne e.symm)]
    exact rb
  · unfold B.pt
    rw [if_pos rfl]
  · rw [DD.sc]
    exact A.v 1 1 (by decide) (by decide) (by decide)
  · exact range_block (A.range (k := 1) (q := 1) (by decide) (by decide)) (s gs (Or.inr rfl))
theorem Az.get {w0 w : World} {t c p a b gs : Nat} {S : E.Sc × Us} {m : Nat → Option Nat} {x : Int} (A : Az w0 w t c p a b gs S m x) : Calls Tryz.prog 32 #[.pointer (some ⟨t, 0, none⟩), .int .i64 (b : Nat), .int .i64 1] w fun e w' => e = .returned (.tuple #[.agg #[.bool (N.fb x 1), .bool (N.fb x 2), .bool (N.fb x 4), .bool (N.fb x 8), .bool (N.fb x 16), .bool (N.fb x 32), .int .i64 (x / 256)], .int .i64 0]) ∧ Az w0 w' t c p a b gs S m x := by
  refine (A.ts.get A.r (pg := 1) (by decide)).mono ?_
  rintro e w' ⟨rfl, K, s⟩
  rw [← A.v]
  exact ⟨rfl, A.sm K s⟩
theorem Az.get_no {w0 w : World} {t c p a b gs : Nat} {S : E.Sc × Us} {m : Nat → Option Nat} {x : Int} (A : Az w0 w t c p a b gs S m x) (ha : a < 4096) : Calls Tryz.prog 32 #[.pointer (some ⟨t, 0, none⟩), .int .i64 (a : Nat), .int .i64 1] w fun e w' => e = .returned (.tuple #[.agg #[.bool false, .bool false, .bool false, .bool false, .bool false, .bool false, .int .i64 0], .int .i64 2]) ∧ Below w.heap.size w w' := by
  obtain ⟨X, T⟩ := A.ts.zt.tv
  refine Get_arg T (a : Nat) 1 (by omega) (by omega) ?_
  rintro ⟨⟨k, hk, hn⟩, _⟩
  obtain rfl : a = k := by omega
  exact hn A.no
theorem Az.counts {w0 w : World} {t c p a b gs : Nat} {S : E.Sc × Us} {m : Nat → Option Nat} {x : Int} (A : Az w0 w t c p a b gs S m x) : Calls Tryz.prog 14 #[.pointer (some ⟨p, 0, none⟩)] w fun e w' => ∃ x0 x1 x2 x4 x5 x6 : Nat, e = .returned (.agg #[.int .i64 (x0 : Nat), .int .i64 (x1 : Nat), .int .i64 (x2 : Nat), .int .i64 4, .int .i64 (x4 : Nat), .int .i64 (x5 : Nat), .int .i64 (x6 : Nat)]) ∧ Below w0.heap.size w0 w' := by
  refine A.ts.counts.mono ?_
  rintro e w' ⟨x0, x1, x2, x4, x5, x6, rfl, K, _⟩
  rw [A.cu]
  exact ⟨x0, x1, x2, x4, x5, x6, rfl, K.zt.be⟩
theorem range7 {W : World} {g o : Nat} {b1 b2 b3 b4 b5 b6 : Bool} {a : Int} (h : W.rangeAt g o [.bool b1, .bool b2, .bool b3, .bool b4, .bool b5, .bool b6, .int .i64 a]) : W.cell? ⟨g, o, none⟩ = some (.bool b1) ∧ W.cell? ⟨g, o + 1, none⟩ = some (.bool b2) ∧ W.cell? ⟨g, o + 2, none⟩ = some (.bool b3) ∧ W.cell? ⟨g, o + 3, none⟩ = some (.bool b4) ∧ W.cell? ⟨g, o + 4, none⟩ = some (.bool b5) ∧ W.cell? ⟨g, o + 5, none⟩ = some (.bool b6) ∧ W.cell? ⟨g, o + 6, none⟩ = some (.int .i64 a) :=
  ⟨h 0 _ rfl, h 1 _ rfl, h 2 _ rfl, h 3 _ rfl, h 4 _ rfl, h 5 _ rfl, h 6 _ rfl⟩
theorem Ap.a_lt {w0 w : World} {t c p a b gr gs : Nat} {S : E.Sc × Us} {m : Nat → Option Nat} {V : Nat → Int} (A : Ap w0 w t c p a b gr gs S m V) : a < 4096 := by
  have ra : m a ≠ none := A.r 0 (by decide)
  exact (A.ts.ok.lt A.ts.par (h := hwOf us) A.ts.hN ra (Nat.zero_le 3) (tb_zero (wd S.1.m) a 0)).2
end Go.Proofs.YtiegcncpgjnpbaaGreat.Pg
