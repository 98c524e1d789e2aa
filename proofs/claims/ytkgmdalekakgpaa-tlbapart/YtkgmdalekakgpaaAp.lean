/- The law TlbApart walked. -/
import Derived.Test.YtkgmdalekakgpaaWk
import Derived.Test.YtkgmdalekakgpaaOp
import Derived.Deep.DeepCutAuto
import Derived.Deep.CutBlock
import Derived.Deep.RegionWith
namespace Go.Proofs.Ytkgmdalekakgpaa
open Go.ChangeShapes Go.WideShapes Go.ChangeAt Go.RowKit
set_option linter.unusedVariables false

/-- What is filled of the address space 5. -/
def mine (f : Nat → Tr) (k : Nat) : Tr := ⟨5, k, (f k).f % 4096, (f k).r, (f k).w, (f k).d⟩
/-- All that, the latest first. -/
def mns (f : Nat → Tr) : Nat → List Tr
  | 0 => []
  | k + 1 => mine f k :: mns f k
theorem mns_mem {f : Nat → Tr} : ∀ {k : Nat} {y : Tr}, y ∈ mns f k → y.a = 5 ∧ ∃ i : Nat, i < k ∧ y = mine f i
  | 0, y, h => by simp [mns] at h
  | k + 1, y, h => by
    simp only [mns, List.mem_cons] at h
    rcases h with rfl | h
    · exact ⟨rfl, k, by omega, rfl⟩
    · obtain ⟨h1, i, hi, e⟩ := mns_mem h
      exact ⟨h1, i, by omega, e⟩
theorem mns_len (f : Nat → Tr) : ∀ k, (mns f k).length = k
  | 0 => rfl
  | k + 1 => by simp [mns, mns_len f k]
theorem mns_ok (f : Nat → Tr) (k : Nat) (hk : k < 20) : filE (mine f k) = 0 := by
  have h1 : okP (k : Int) = true := by simp [okP]; omega
  have h2 : okF ((f k).f % 4096) = true := by
    simp [okF]
    omega
  simp [filE, mine, okA, h1, h2]
theorem mns_step (f : Nat → Tr) (k : Nat) (hk : k < 20) : mns f (k + 1) = filL 64 (mine f k) (mns f k) := by
  have h1 : okP (k : Int) = true := by simp [okP]; omega
  have h2 : okF ((f k).f % 4096) = true := by
    simp [okF]
    omega
  have e : filL 64 (mine f k) (mns f k) = fil 64 (mine f k) (mns f k) := by simp [filL, mine, okA, h1, h2]
  rw [e]
  unfold fil
  rw [rm_none, List.take_of_length_le]
  · rfl
  · simp [mns_len]
    omega
  · intro y hy
    obtain ⟨_, i, hi, rfl⟩ := mns_mem hy
    simp [Proofs.Ytkgmdalekakgpaa.hk, mine]
    omega
/-- What the other steps leave of it: the address space 5's as they were, and no more than there were steps. -/
structure Ai (f : Nat → Tr) (m k : Nat) (L : List Tr) : Prop where
  five : L.filter (fun y => y.a == 5) = mns f m
  len : L.length ≤ m + k
theorem mns_five (f : Nat → Tr) (m : Nat) : (mns f m).filter (fun y => y.a == 5) = mns f m := by
  rw [List.filter_eq_self]
  intro y hy
  simp [(mns_mem hy).1]
theorem mns_look {f : Nat → Tr} : ∀ {m i : Nat}, i < m → look 5 i (mns f m) = some (mine f i)
  | 0, i, h => by omega
  | m + 1, i, h => by
    unfold look mns
    by_cases e : i = m
    · subst e
      rw [List.find?_cons_of_pos (by simp [hk, mine])]
    · rw [List.find?_cons_of_neg (by simp [hk, mine]; omega)]
      exact mns_look (by omega)
theorem Ai.look {f : Nat → Tr} {m k : Nat} {L : List Tr} (h : Ai f m k L) {i : Nat} (hi : i < m) : look 5 i L = some (mine f i) := by
  have e : Proofs.Ytkgmdalekakgpaa.look 5 i L = Proofs.Ytkgmdalekakgpaa.look 5 i (L.filter (fun y => y.a == 5)) := by
    unfold Proofs.Ytkgmdalekakgpaa.look
    rw [List.find?_filter]
    congr 1
    funext y
    cases q : hk 5 i y with
    | false => simp
    | true => simp [(hk_eq q).1]
  rw [e, h.five]
  exact mns_look hi
theorem split_len : ∀ L : List Tr, L.length = (L.filter (fun y => y.a == 5)).length + (outOf 5 L).length
  | [] => rfl
  | y :: L => by
    have ih := split_len L
    unfold outOf at ih ⊢
    cases e : (y.a == 5) with
    | true => rw [List.filter_cons_of_pos (by simpa using e), List.filter_cons_of_neg (by simpa using e)]; simp only [List.length_cons]; omega
    | false => rw [List.filter_cons_of_neg (by simpa using e), List.filter_cons_of_pos (by simpa using e)]; simp only [List.length_cons]; omega
theorem Ai.count {f : Nat → Tr} {m k : Nat} {L : List Tr} (h : Ai f m k L) : (L.length : Int) - (outOf 5 L).length = m := by
  have h1 := split_len L
  rw [h.five, mns_len] at h1
  omega
theorem five_rm {a p : Int} (h : ¬ a = 5) (L : List Tr) : (rm a p L).filter (fun y => y.a == 5) = L.filter (fun y => y.a == 5) := by
  unfold rm
  rw [List.filter_filter]
  refine List.filter_congr (fun y _ => ?_)
  cases e : (y.a == 5) with
  | false => simp
  | true =>
    have : y.a = 5 := by simpa using e
    have hn : hk a p y = false := by
      simp [hk]
      intro q
      omega
    simp [hn]
theorem five_out {a : Int} (h : ¬ a = 5) (L : List Tr) : (outOf a L).filter (fun y => y.a == 5) = L.filter (fun y => y.a == 5) := by
  unfold outOf
  rw [List.filter_filter]
  refine List.filter_congr (fun y _ => ?_)
  cases e : (y.a == 5) with
  | false => simp
  | true =>
    have : y.a = 5 := by simpa using e
    have hn : (y.a == a) = false := by
      simp
      omega
    simp [hn]
theorem five_mrk {a p : Int} (h : ¬ a = 5) : ∀ L : List Tr, (mrk a p L).filter (fun y => y.a == 5) = L.filter (fun y => y.a == 5)
  | [] => rfl
  | y :: L => by
    have ih := five_mrk (p := p) h L
    have e : mrk a p (y :: L) = (if hk a p y then { y with d := true } else y) :: mrk a p L := rfl
    rw [e]
    cases hy : hk a p y with
    | true =>
      have : y.a = a := (hk_eq hy).1
      have h5 : (y.a == 5) = false := by simp; omega
      rw [if_pos rfl, List.filter_cons_of_neg (by simpa using h5), List.filter_cons_of_neg (by simpa using h5), ih]
    | false =>
      rw [if_neg (by simp), List.filter_cons, List.filter_cons, ih]
theorem Ai.fill {f : Nat → Tr} {m k : Nat} {L : List Tr} (h : Ai f m k L) (x : Tr) (hx : ¬ x.a = 5) (hk : m + k < 64) : Ai f m (k + 1) (fil 64 x L) := by
  have hl := h.len
  have h1 := rm_len x.a x.p L
  have e : fil 64 x L = x :: rm x.a x.p L := by
    unfold fil
    rw [List.take_of_length_le]
    simp
    omega
  rw [e]
  refine ⟨?_, by simp; omega⟩
  rw [List.filter_cons_of_neg (by simpa using hx), five_rm hx, h.five]
theorem Ai.mark {f : Nat → Tr} {m k : Nat} {L : List Tr} (h : Ai f m k L) (a p : Int) (hx : ¬ a = 5) : Ai f m k (mrk a p L) := ⟨by rw [five_mrk hx, h.five], by rw [mrk_len]; exact h.len⟩
theorem Ai.drop {f : Nat → Tr} {m k : Nat} {L : List Tr} (h : Ai f m k L) (a p : Int) (hx : ¬ a = 5) : Ai f m k (rm a p L) := ⟨by rw [five_rm hx, h.five], Nat.le_trans (rm_len a p L) h.len⟩
theorem Ai.dropAll {f : Nat → Tr} {m k : Nat} {L : List Tr} (h : Ai f m k L) (a : Int) (hx : ¬ a = 5) : Ai f m k (outOf a L) := ⟨by rw [five_out hx, h.five], Nat.le_trans (out_len a L) h.len⟩
set_option maxRecDepth 100000 in
set_option maxHeartbeats 40000000 in
theorem apart_walk (w : World) (am : Option Addr) (lm cm : Nat) (f : Nat → Tr) (hm : lm ≤ maxLen) (T : Trs w am lm f) (al : Option Addr) (ll cl : Nat) (hl : ll ≤ maxLen) (D : Dos w al ll) :
    Calls Try.prog 5 #[.slice am lm cm, .slice al ll cl] w fun e w' => e = .returned (.bool true) ∧ Below w.heap.size w w' := by
  unfold maxLen at hm hl
  have HT : Hid (Trs w am lm f) := T
  have HD : Hid (Dos w al ll) := D
  clear T D
  go_enter Try.func5, Try.ntmps5
  go_wp2_with fail
  refine (works_any w).mono ?_
  rintro e w1 ⟨rfl, hb⟩
  have B1 : Hid (Below w.heap.size w w1) := hb
  clear hb
  go_wp2_with fail
  refine (New_ok 64 (by omega) (by omega) w1).mono ?_
  rintro e w2 ⟨p, F, rfl, hC, hK⟩
  have O2 : Hid (On (fun k => k < w.heap.size) w w2 p 64 []) := by
    have h := On.start hC hK
    exact On.less (w1 := w1) ⟨B1.out.os, B1.out.tape, B1.out.output, B1.out.size, B1.out.block, fun i hi => hi⟩ h (fun i hi => Nat.lt_of_lt_of_le hi B1.out.size)
  clear hC hK B1
  go_upto_block 0 with fail
  go_cut [] (fun wc => On (fun k => k < w.heap.size) w wc p 64 (mns f (min lm 20)))
  case first =>
    go_wp2_with fail
    go_loopw [7] (fun i wr => ∃ k : Nat, k ≤ lm ∧ k ≤ 20 ∧ i = .int .i64 k ∧ On (fun k => k < w.heap.size) w wr p 64 (mns f k)) (fun i _ => lm - (intOf i).toNat)
    case atStart => exact ⟨0, by omega, by omega, rfl, O2.out⟩
    case round =>
      clear O2
      obtain ⟨k, hk, hk2, rfl, hO⟩ := hrel
      have O3 : Hid (On (fun k => k < w.heap.size) w wr p 64 (mns f k)) := hO
      clear hO
      by_cases a1 : k < lm ∧ k < 20
      · obtain ⟨a1, a2⟩ := a1
        obtain ⟨b, off, e1, hb, h6⟩ := HT.out.resolve_left (by omega)
        subst e1
        obtain ⟨h6, hwf⟩ := h6 k a1
        obtain ⟨fl, fh⟩ := hwf.f
        obtain ⟨y, hy⟩ : ∃ y, f k = y := ⟨_, rfl⟩
        have HY : Hid (f k = y) := hy
        rw [hy] at h6 fl fh
        clear hy
        have HS : Hid (∀ W, Kpt (fun k => k < w.heap.size) w W → W.cell? ⟨b, off + k * 6 + 2, none⟩ = some (.int .i64 y.f) ∧ W.cell? ⟨b, off + k * 6 + 3, none⟩ = some (.bool y.r) ∧ W.cell? ⟨b, off + k * 6 + 4, none⟩ = some (.bool y.w) ∧ W.cell? ⟨b, off + k * 6 + 5, none⟩ = some (.bool y.d)) := fun W hW => by
          have := h6.of_eq (hW.block b hb)
          exact ⟨this.c2, this.c3, this.c4, this.c5⟩
        have CK : Hid (∀ W, Calls Try.prog 15 #[.int .i64 y.f, .int .i64 4096] W fun e w' => e = .returned (.int .i64 (y.f % 4096)) ∧ w' = W) := fun W => kind_any y.f 4096 (by omega) (by omega) fl fh W
        clear h6 hwf fl fh
        go_wp2_with fail
        have i0 : (0 : Int) ≤ (k : Int) := by omega
        have i1 : (k : Int) < (lm : Int) := by omega
        go_region_held3 (fun W => W.cell? ⟨b, off + k * 6 + 2, none⟩ = some (.int .i64 y.f) ∧ W.cell? ⟨b, off + k * 6 + 3, none⟩ = some (.bool y.r) ∧ W.cell? ⟨b, off + k * 6 + 4, none⟩ = some (.bool y.w) ∧ W.cell? ⟨b, off + k * 6 + 5, none⟩ = some (.bool y.d))
          (first | exact HS.out _ (O3.out.below (below_drew _ _)).kpt | exact HS.out _ (O3.out.below ((below_new _ _).drew)).kpt)
          (first | (go_at_call 15; refine (CK.out _).mono ?_; rintro e w' ⟨rfl, rfl⟩))
        all_goals (
          have HM : Hid (filL 64 ⟨5, k, y.f % 4096, y.r, y.w, y.d⟩ (mns f k) = mns f (k + 1)) := by
            have := mns_step f k (by omega)
            unfold mine at this
            rw [HY.out] at this
            exact this.symm
          have HE : Hid (filE ⟨5, k, y.f % 4096, y.r, y.w, y.d⟩ = 0) := by
            have := mns_ok f k (by omega)
            unfold mine at this
            rw [HY.out] at this
            exact this
          have CF : Hid (∀ W, On (fun k => k < w.heap.size) w W p 64 (mns f k) → Calls Try.prog 18 #[.pointer (some ⟨p, 0, none⟩), .agg #[.int .i64 5, .int .i64 k, .int .i64 (y.f % 4096), .bool y.r, .bool y.w, .bool y.d]] W fun e w' => e = .returned (.int .i64 0) ∧ On (fun k => k < w.heap.size) w w' p 64 (mns f (k + 1))) := fun W o => o.fill_at 5 k (y.f % 4096) y.r y.w y.d _ _ HE.out HM.out
          clear HM HE HS CK
          go_wp2_with fail
          refine (CF.out _ (O3.out.below ((below_new _ _).drew))).mono ?_
          rintro e w4 ⟨rfl, hO⟩
          have O4 : Hid (On (fun k => k < w.heap.size) w w4 p 64 (mns f (k + 1))) := hO
          clear hO CF O3
          go_wp2_with fail
          go_roundw
          case rel => exact ⟨k + 1, by omega, by omega, by go_num, O4.out⟩
          case measure => simp [intOf]; omega)
      · have hkm : k = min lm 20 := by omega
        have a1' : ¬ k < lm ∨ (k < lm ∧ ¬ k < 20) := by omega
        have HKM : Hid (k = min lm 20) := hkm
        clear a1 hkm
        rcases a1' with a1 | ⟨a1, a2⟩
        all_goals (
          go_wp2_with fail
          go_meet
          case rel =>
            have := O3.out
            rw [HKM.out] at this
            exact this)
  case rest =>
    have O4 : Hid (On (fun k => k < w.heap.size) w wc p 64 (mns f (min lm 20))) := hcut
    clear hcut O2
    obtain ⟨m, hm2⟩ : ∃ m, m = min lm 20 := ⟨_, rfl⟩
    have HMM : Hid (m = min lm 20) := hm2
    rw [← hm2] at O4
    have hm20 : m ≤ 20 := by omega
    clear hm2
    go_upto_block 2 with fail
    go_cut [] (fun wc => ∃ L, On (fun k => k < w.heap.size) w wc p 64 L ∧ Ai f m 40 L)
    case first =>
      go_wp2_with fail
      go_loopw [9] (fun i wr => ∃ k : Nat, k ≤ ll ∧ k ≤ 40 ∧ i = .int .i64 k ∧ ∃ L, On (fun k => k < w.heap.size) w wr p 64 L ∧ Ai f m k L) (fun i _ => ll - (intOf i).toNat)
      case atStart => exact ⟨0, by omega, by omega, rfl, _, O4.out, mns_five f m, by simp [mns_len]⟩
      case round =>
        clear O4
        obtain ⟨k, hk, hk2, rfl, L, hO, hA⟩ := hrel
        have O3 : Hid (On (fun k => k < w.heap.size) w wr p 64 L) := hO
        have HA : Hid (Ai f m k L) := hA
        clear hO hA
        by_cases a1 : k < ll ∧ k < 40
        · obtain ⟨a1, a2⟩ := a1
          obtain ⟨b, off, K, x, e1, hb, hd⟩ := HD.out k a1
          subst e1
          have hd2 := hd.of_eq (O3.out.kpt.block b hb)
          have h6 : Six wr b (off + k * 7 + 1) x := Six.of hd2.six
          obtain ⟨d0, d1, d2, d3, d4, d5⟩ := h6
          clear hd2
          have HDo : Hid (Do1 w b (off + k * 7) K x) := hd
          clear hd
          obtain ⟨xa0, xa1⟩ := HDo.out.wf.a
          obtain ⟨xp0, xp1⟩ := HDo.out.wf.p
          obtain ⟨xf0, xf1⟩ := HDo.out.wf.f
          have CK : Hid (∀ a n W, ((a = x.a ∧ n = 100) ∨ (a = x.p ∧ n = 1048576) ∨ (a = x.f ∧ n = 4096)) → Calls Try.prog 15 #[.int .i64 a, .int .i64 n] W fun e w' => e = .returned (.int .i64 (a % n)) ∧ w' = W) := fun a n W h => by
            rcases h with ⟨rfl, rfl⟩ | ⟨rfl, rfl⟩ | ⟨rfl, rfl⟩
            · exact kind_any x.a 100 (by omega) (by omega) xa0 xa1 W
            · exact kind_any x.p 1048576 (by omega) (by omega) xp0 xp1 W
            · exact kind_any x.f 4096 (by omega) (by omega) xf0 xf1 W
          have eA : IntKind.i64.wrap (6 + x.a % 100) = 6 + x.a % 100 := IntWalk.i64_in _ (by omega)
          clear xa0 xa1 xp0 xp1 xf0 xf1
          go_upto_region 16 with fail
          go_cut [] (fun wx => wx = (wr.alloc (.cells #[.int .i64 (6 + x.a % 100), .int .i64 (x.p % 1048576), .int .i64 (x.f % 4096), .bool x.r, .bool x.w, .bool x.d] 32)).drew)
          case first =>
            go_region_with (first | (go_at_call 15; refine (CK.out _ _ _ (by simp)).mono ?_; rintro e w' ⟨rfl, rfl⟩))
            all_goals (
              go_wp2_with fail
              go_meet
              case rel => rfl)
          case rest =>
            subst hcut
            have HDo2 : Hid (∀ W, Kpt (fun k => k < w.heap.size) w W → W.cell? ⟨b, off + k * 7, none⟩ = some (.int .i64 K)) := fun W hW => (HDo.out.of_eq (hW.block b hb)).k
            have C2 : Hid (∀ W, Calls Try.prog 15 #[.int .i64 K, .int .i64 2] W fun e w' => e = .returned (.int .i64 (K % 2)) ∧ w' = W) := fun W => kind_any K 2 (by omega) (by omega) HDo.out.k0 HDo.out.k1 W
            have C5 : Hid (∀ W, Calls Try.prog 15 #[.int .i64 K, .int .i64 5] W fun e w' => e = .returned (.int .i64 (K % 5)) ∧ w' = W) := fun W => kind_any K 5 (by omega) (by omega) HDo.out.k0 HDo.out.k1 W
            have HXX : Hid (okA (6 + x.a % 100) = true ∧ okP (x.p % 1048576) = true ∧ okF (x.f % 4096) = true ∧ ¬ (6 + x.a % 100 = 5)) := by
              refine ⟨?_, ?_, ?_, ?_⟩
              · simp [okA]; omega
              · simp [okP]; omega
              · simp [okF]; omega
              · omega
            clear CK eA d0 d1 d2 d3 d4 d5 HDo
            generalize 6 + x.a % 100 = A at *
            generalize x.p % 1048576 = G at *
            generalize x.f % 4096 = Fr at *
            generalize x.r = xr at *
            generalize x.w = xw at *
            generalize x.d = xd at *
            have X2 : Hid (Six (wr.alloc (.cells #[.int .i64 A, .int .i64 G, .int .i64 Fr, .bool xr, .bool xw, .bool xd] 32)).drew wr.heap.size 0 ⟨A, G, Fr, xr, xw, xd⟩) := (six_new wr ⟨A, G, Fr, xr, xw, xd⟩ 32).of_eq rfl
            have KB : Hid (Kpt (fun k => k < w.heap.size) w (wr.alloc (.cells #[.int .i64 A, .int .i64 G, .int .i64 Fr, .bool xr, .bool xw, .bool xd] 32)).drew) := O3.out.kpt.below (below_new _ _).drew
            have O5 : Hid (On (fun i => i < w.heap.size ∨ (wr.heap.size ≤ i ∧ i < (wr.alloc (.cells #[.int .i64 A, .int .i64 G, .int .i64 Fr, .bool xr, .bool xw, .bool xd] 32)).drew.heap.size)) (wr.alloc (.cells #[.int .i64 A, .int .i64 G, .int .i64 Fr, .bool xr, .bool xw, .bool xd] 32)).drew (wr.alloc (.cells #[.int .i64 A, .int .i64 G, .int .i64 Fr, .bool xr, .bool xw, .bool xd] 32)).drew p 64 L) := O3.out.more (below_new _ _).drew
            have hb7 : wr.heap.size < (wr.alloc (.cells #[.int .i64 A, .int .i64 G, .int .i64 Fr, .bool xr, .bool xw, .bool xd] 32)).drew.heap.size := by show _ < (wr.alloc _).heap.size; simp
            generalize (wr.alloc (.cells #[.int .i64 A, .int .i64 G, .int .i64 Fr, .bool xr, .bool xw, .bool xd] 32)).drew = W2 at *
            generalize wr.heap.size = b2 at *
            have XK : Hid (∀ W, Kpt (fun i => i < w.heap.size ∨ (b2 ≤ i ∧ i < W2.heap.size)) W2 W → Six W b2 0 ⟨A, G, Fr, xr, xw, xd⟩) := fun W k => X2.out.of_eq (k.block b2 (Or.inr ⟨Nat.le_refl _, hb7⟩))
            have DK : Hid (∀ W, Kpt (fun i => i < w.heap.size ∨ (b2 ≤ i ∧ i < W2.heap.size)) W2 W → W.cell? ⟨b, off + k * 7, none⟩ = some (.int .i64 K)) := fun W kk => HDo2.out W (KB.out.trans kk (fun i hi => Or.inl hi))
            have FIN : Hid (∀ W l, On (fun i => i < w.heap.size ∨ (b2 ≤ i ∧ i < W2.heap.size)) W2 W p 64 l → On (fun k => k < w.heap.size) w W p 64 l) := fun W l o => On.less KB.out o (fun i hi => Or.inl hi)
            obtain ⟨Q, hQ⟩ : ∃ Q, Q = (fun i => i < w.heap.size ∨ (b2 ≤ i ∧ i < W2.heap.size)) := ⟨_, rfl⟩
            rw [← hQ] at O5 XK FIN DK
            clear hQ KB X2 HDo2 O3
            obtain ⟨o1, o2, o3, o5⟩ := HXX.out
            have CF : Hid (Calls _ _ _ _ _) := O5.out.fill_at A G Fr xr xw xd (fil 64 ⟨A, G, Fr, xr, xw, xd⟩ L) 0 (by simp [filE, o1, o2, o3]) (by simp [filL, o1, o2, o3])
            have HA2 : Hid (Ai f m (k + 1) (fil 64 ⟨A, G, Fr, xr, xw, xd⟩ L)) := HA.out.fill _ o5 (by omega)
            clear HA
            obtain ⟨x0, x1, x2, x3, x4, x5⟩ := XK.out W2 O5.out.kpt
            clear o1 o2 o3 o5
            go_wp2_with fail
            refine CF.out.mono ?_
            rintro e w3 ⟨rfl, hO⟩
            have O6 : Hid (On Q W2 w3 p 64 (fil 64 ⟨A, G, Fr, xr, xw, xd⟩ L)) := hO
            clear hO CF O5 x0 x1 x2 x3 x4 x5
            generalize fil 64 ⟨A, G, Fr, xr, xw, xd⟩ L = L2 at *
            obtain ⟨x0, x1, x2, x3, x4, x5⟩ := XK.out w3 O6.out.kpt
            obtain ⟨o1, o2, o3, o5⟩ := HXX.out
            have CM : Hid (Calls _ _ _ _ _) := O6.out.mark_at A G (look A G L2).isSome 0 (mrk A G L2) (by simp [isT, o1, o2]) (by simp [mrkL, o1, o2])
            have HA3 : Hid (Ai f m (k + 1) (mrk A G L2)) := HA2.out.mark A G o5
            clear HA2
            generalize (look A G L2).isSome = b1 at *
            generalize mrk A G L2 = L3 at *
            go_wp2_with fail
            refine CM.out.mono ?_
            rintro e w4 ⟨rfl, hO⟩
            have O7 : Hid (On Q W2 w4 p 64 L3) := hO
            clear hO CM O6 x0 x1 x2 x3 x4 x5
            have dk := DK.out w4 O7.out.kpt
            go_wp2_with fail
            refine (C2.out _).mono ?_
            rintro e w' ⟨rfl, rfl⟩
            clear dk
            have hr2 : K % 2 = 0 ∨ K % 2 = 1 := by omega
            rcases hr2 with hr | hr
            · rw [hr]
              clear hr
              have CD : Hid (Calls _ _ _ _ _) := O7.out.drop_at A G (look A G L3).isSome 0 (rm A G L3) (by simp [isT, o1, o2]) (by simp [rmL, o1, o2])
              have HA4 : Hid (Ai f m (k + 1) (rm A G L3)) := HA3.out.drop A G o5
              obtain ⟨x0, x1, x2, x3, x4, x5⟩ := XK.out w' O7.out.kpt
              generalize (look A G L3).isSome = b3 at *
              generalize rm A G L3 = L4 at *
              go_wp2_with fail
              refine CD.out.mono ?_
              rintro e w5 ⟨rfl, hO⟩
              have O8 : Hid (On Q W2 w5 p 64 L4) := hO
              clear hO CD O7 x0 x1 x2 x3 x4 x5
              have dk := DK.out w5 O8.out.kpt
              go_wp2_with fail
              refine (C5.out _).mono ?_
              rintro e w' ⟨rfl, rfl⟩
              clear dk
              obtain ⟨x0, x1, x2, x3, x4, x5⟩ := XK.out w' O8.out.kpt
              by_cases h5 : K % 5 = 3
              · rw [h5]
                clear h5
                have CD : Hid (Calls _ _ _ _ _) := O8.out.dropAll_at A (dal A L4).1 0 (outOf A L4) (by simp [dal, o1]) (by simp [dalL, o1])
                have HA5 : Hid (Ai f m (k + 1) (outOf A L4)) := HA4.out.dropAll A o5
                generalize (dal A L4).1 = dn at *
                go_wp2_with fail
                refine CD.out.mono ?_
                rintro e w6 ⟨rfl, hO⟩
                have O9 : Hid (On (fun k => k < w.heap.size) w w6 p 64 (outOf A L4)) := FIN.out _ _ hO
                clear hO CD x0 x1 x2 x3 x4 x5
                go_wp2_with fail
                go_roundw
                case rel => exact ⟨k + 1, by omega, by omega, by go_num, _, O9.out, HA5.out⟩
                case measure => simp [intOf]; omega
              · have q5 : ((K % 5 : Int) == 3) = false := by simpa using h5
                clear h5 x0 x1 x2 x3 x4 x5
                have O9 : Hid (On (fun k => k < w.heap.size) w w' p 64 L4) := FIN.out _ _ O8.out
                go_wp2_with fail
                go_roundw
                case rel => exact ⟨k + 1, by omega, by omega, by go_num, _, O9.out, HA4.out⟩
                case measure => simp [intOf]; omega
            · rw [hr]
              clear hr
              have HA4 := HA3
              have O8 := O7
              clear HA3 O7
              generalize L3 = L4 at *
              generalize w' = w5 at *
              have dk := DK.out w5 O8.out.kpt
              go_wp2_with fail
              refine (C5.out _).mono ?_
              rintro e w' ⟨rfl, rfl⟩
              clear dk
              obtain ⟨x0, x1, x2, x3, x4, x5⟩ := XK.out w' O8.out.kpt
              by_cases h5 : K % 5 = 3
              · rw [h5]
                clear h5
                have CD : Hid (Calls _ _ _ _ _) := O8.out.dropAll_at A (dal A L4).1 0 (outOf A L4) (by simp [dal, o1]) (by simp [dalL, o1])
                have HA5 : Hid (Ai f m (k + 1) (outOf A L4)) := HA4.out.dropAll A o5
                generalize (dal A L4).1 = dn at *
                go_wp2_with fail
                refine CD.out.mono ?_
                rintro e w6 ⟨rfl, hO⟩
                have O9 : Hid (On (fun k => k < w.heap.size) w w6 p 64 (outOf A L4)) := FIN.out _ _ hO
                clear hO CD x0 x1 x2 x3 x4 x5
                go_wp2_with fail
                go_roundw
                case rel => exact ⟨k + 1, by omega, by omega, by go_num, _, O9.out, HA5.out⟩
                case measure => simp [intOf]; omega
              · have q5 : ((K % 5 : Int) == 3) = false := by simpa using h5
                clear h5 x0 x1 x2 x3 x4 x5
                have O9 : Hid (On (fun k => k < w.heap.size) w w' p 64 L4) := FIN.out _ _ O8.out
                go_wp2_with fail
                go_roundw
                case rel => exact ⟨k + 1, by omega, by omega, by go_num, _, O9.out, HA4.out⟩
                case measure => simp [intOf]; omega
        · have a1' : ¬ k < ll ∨ (k < ll ∧ ¬ k < 40) := by omega
          clear a1
          have HA4 : Hid (Ai f m 40 L) := ⟨HA.out.five, by have := HA.out.len; omega⟩
          rcases a1' with a1 | ⟨a1, a2⟩
          all_goals (
            go_wp2_with fail
            go_meet
            case rel => exact ⟨_, O3.out, HA4.out⟩)
    case rest =>
      obtain ⟨L, hO, hA⟩ := hcut
      have O6 : Hid (On (fun k => k < w.heap.size) w wc p 64 L) := hO
      have HA : Hid (Ai f m 40 L) := hA
      clear hO hA O4
      go_upto_block 4 with fail
      go_cut [] (fun wc => On (fun k => k < w.heap.size) w wc p 64 L)
      case first =>
        go_wp2_with fail
        go_loopw [16] (fun i wr => ∃ k : Nat, k ≤ lm ∧ k ≤ 20 ∧ i = .int .i64 k ∧ On (fun k => k < w.heap.size) w wr p 64 L) (fun i _ => lm - (intOf i).toNat)
        case atStart => exact ⟨0, by omega, by omega, rfl, O6.out⟩
        case round =>
          clear O6
          obtain ⟨k, hk, hk2, rfl, hO⟩ := hrel
          have O3 : Hid (On (fun k => k < w.heap.size) w wr p 64 L) := hO
          clear hO
          by_cases a1 : k < lm ∧ k < 20
          · obtain ⟨a1, a2⟩ := a1
            obtain ⟨b, off, e1, hb, h6⟩ := HT.out.resolve_left (by omega)
            subst e1
            obtain ⟨h6, hwf⟩ := h6 k a1
            obtain ⟨fl, fh⟩ := hwf.f
            have hkm : k < m := by rw [HMM.out]; omega
            obtain ⟨y, hy⟩ : ∃ y, f k = y := ⟨_, rfl⟩
            have HY : Hid (f k = y) := hy
            have HPK : Hid (pk 5 k L = (⟨5, k, y.f % 4096, y.r, y.w, y.d⟩, true, 0)) := by
              unfold Hid
              have h1 : okP (k : Int) = true := by simp [okP]; omega
              have h2 := HA.out.look hkm
              unfold mine at h2
              rw [hy] at h2
              simp [pk, okA, h1, h2]
            rw [hy] at h6 fl fh
            clear hy
            have HS : Hid (∀ W, Kpt (fun k => k < w.heap.size) w W → W.cell? ⟨b, off + k * 6 + 2, none⟩ = some (.int .i64 y.f) ∧ W.cell? ⟨b, off + k * 6 + 3, none⟩ = some (.bool y.r) ∧ W.cell? ⟨b, off + k * 6 + 4, none⟩ = some (.bool y.w) ∧ W.cell? ⟨b, off + k * 6 + 5, none⟩ = some (.bool y.d)) := fun W hW => by
              have := h6.of_eq (hW.block b hb)
              exact ⟨this.c2, this.c3, this.c4, this.c5⟩
            have CK : Hid (∀ W, Calls Try.prog 15 #[.int .i64 y.f, .int .i64 4096] W fun e w' => e = .returned (.int .i64 (y.f % 4096)) ∧ w' = W) := fun W => kind_any y.f 4096 (by omega) (by omega) fl fh W
            clear h6 hwf fl fh
            obtain ⟨U, hU⟩ : ∃ U : Tr, U = ⟨5, k, y.f % 4096, y.r, y.w, y.d⟩ := ⟨_, rfl⟩
            have CP : Hid (∀ W, On (fun k => k < w.heap.size) w W p 64 L → Calls Try.prog 24 #[.pointer (some ⟨p, 0, none⟩), .int .i64 5, .int .i64 k] W fun e w' => e = .returned (.tuple #[.agg #[.int .i64 U.a, .int .i64 U.p, .int .i64 U.f, .bool U.r, .bool U.w, .bool U.d], .bool true, .int .i64 0]) ∧ Below W.heap.size W w') := fun W o => o.peek_at 5 k U true 0 (by rw [hU]; exact HPK.out)
            have SU : Hid (∀ W : World, Six (W.alloc (.cells #[.int .i64 5, .int .i64 k, .int .i64 (y.f % 4096), .bool y.r, .bool y.w, .bool y.d] 32)).drew W.heap.size 0 U) := fun W => by
              rw [hU]
              exact (six_new W ⟨5, k, y.f % 4096, y.r, y.w, y.d⟩ 32).of_eq rfl
            clear hU HPK
            go_wp2_with fail
            have i0 : (0 : Int) ≤ (k : Int) := by omega
            have i1 : (k : Int) < (lm : Int) := by omega
            go_region_held3 (fun W => W.cell? ⟨b, off + k * 6 + 2, none⟩ = some (.int .i64 y.f) ∧ W.cell? ⟨b, off + k * 6 + 3, none⟩ = some (.bool y.r) ∧ W.cell? ⟨b, off + k * 6 + 4, none⟩ = some (.bool y.w) ∧ W.cell? ⟨b, off + k * 6 + 5, none⟩ = some (.bool y.d))
              (first | exact HS.out _ (O3.out.below (below_drew _ _)).kpt | exact HS.out _ (O3.out.below ((below_new _ _).drew)).kpt)
              (first | (go_at_call 15; refine (CK.out _).mono ?_; rintro e w' ⟨rfl, rfl⟩))
            all_goals (
              have O4 : Hid (On (fun k => k < w.heap.size) w (wr.alloc (.cells #[.int .i64 5, .int .i64 k, .int .i64 (y.f % 4096), .bool y.r, .bool y.w, .bool y.d] 32)).drew p 64 L) := O3.out.below (below_new _ _).drew
              have X4 : Hid (Six (wr.alloc (.cells #[.int .i64 5, .int .i64 k, .int .i64 (y.f % 4096), .bool y.r, .bool y.w, .bool y.d] 32)).drew wr.heap.size 0 U) := SU.out wr
              have hb4 : wr.heap.size < (wr.alloc (.cells #[.int .i64 5, .int .i64 k, .int .i64 (y.f % 4096), .bool y.r, .bool y.w, .bool y.d] 32)).drew.heap.size := by show _ < (wr.alloc _).heap.size; simp
              clear HS CK SU i0 i1
              go_wp2_with fail
              generalize (wr.alloc (.cells #[.int .i64 5, .int .i64 k, .int .i64 (y.f % 4096), .bool y.r, .bool y.w, .bool y.d] 32)).drew = W4 at *
              generalize wr.heap.size = b4 at *
              refine (CP.out _ O4.out).mono ?_
              rintro e w5 ⟨rfl, hb5⟩
              have O5 : Hid (On (fun k => k < w.heap.size) w (w5.alloc (.cells #[.int .i64 U.a, .int .i64 U.p, .int .i64 U.f, .bool U.r, .bool U.w, .bool U.d] 32)) p 64 L) := (O4.out.below hb5).below (below_new _ _)
              have X5 := X4.out.below hb4 hb5
              have X6 := X5.below (Nat.lt_of_lt_of_le hb4 hb5.size) (below_new w5 (.cells #[.int .i64 U.a, .int .i64 U.p, .int .i64 U.f, .bool U.r, .bool U.w, .bool U.d] 32))
              obtain ⟨c0, c1, c2, c3, c4, c5⟩ := X6
              have hq := ne_run U.a U.p U.f U.a U.p U.f U.r U.w U.d U.r U.w U.d
              rw [eqT_self, Bool.not_true] at hq
              clear hb5 CP O4 X4 X5 O3
              go_wp2_with fail
              go_roundw
              case rel => exact ⟨k + 1, by omega, by omega, by go_num, O5.out⟩
              case measure => simp [intOf]; omega)
          · have a1' : ¬ k < lm ∨ (k < lm ∧ ¬ k < 20) := by omega
            clear a1
            rcases a1' with a1 | ⟨a1, a2⟩
            all_goals (
              go_wp2_with fail
              go_meet
              case rel => exact O3.out)
      case rest =>
        have O7 : Hid (On (fun k => k < w.heap.size) w wc p 64 L) := hcut
        have CD : Hid (Calls _ _ _ _ _) := O7.out.dropAll_at 5 m 0 (outOf 5 L) (by simp [dal, okA, HA.out.count]) (by simp [dalL, okA])
        have q : ((m : Int) == min (lm : Int) 20) = true := by rw [HMM.out]; simp; omega
        clear hcut O6 HA
        go_wp2_with fail
        refine CD.out.mono ?_
        rintro e w8 ⟨rfl, hO⟩
        have BL : Hid (Below w.heap.size w w8) := hO.kpt.toBelow
        clear hO CD q
        go_wp2
        all_goals (
          go_ret
          exact ⟨ret_bool (by have h := HMM.out; simp; omega), BL.out⟩)
end Go.Proofs.Ytkgmdalekakgpaa
