/- The reference's TLB: Within, New, asked, at, without, front, Peek. -/
import Derived.Test.YtokaohlgncmoaaaGreatWHf
import Derived.Deep.RegionHeld3
import Derived.Deep.DeepCutAuto
import Derived.Deep.RegionWith
namespace Go.Proofs.YtokaohlgncmoaaaGreat.T
open Go.ChangeShapes Go.WideShapes Go.ChangeAt Go.RowKit
set_option linter.unusedVariables false
set_option maxRecDepth 8192

theorem Within_any (n lo hi : Int) (w : World) : Calls Tryz.prog 78 #[.int .i64 n, .int .i64 lo, .int .i64 hi] w fun e w' => e = .returned (.bool (decide (lo ≤ n ∧ n ≤ hi))) ∧ w' = w := by
  by_cases h0 : lo ≤ n
  · by_cases h1 : n ≤ hi
    · rw [show decide (lo ≤ n ∧ n ≤ hi) = true by simp [h0, h1]]
      go_enter Tryz.func78, Tryz.ntmps78
      go_wp2
      go_ret
      exact ⟨rfl, rfl⟩
    · rw [show decide (lo ≤ n ∧ n ≤ hi) = false by simp [h1]]
      go_enter Tryz.func78, Tryz.ntmps78
      go_wp2
      go_ret
      exact ⟨rfl, rfl⟩
  · rw [show decide (lo ≤ n ∧ n ≤ hi) = false by simp [h0]]
    go_enter Tryz.func78, Tryz.ntmps78
    go_wp2
    go_ret
    exact ⟨rfl, rfl⟩
theorem WithinA (a : Int) (W : World) : Calls Tryz.prog 78 #[.int .i64 a, .int .i64 0, .int .i64 127] W fun e w' => e = .returned (.bool (okA a)) ∧ w' = W := by
  have := Within_any a 0 127 W
  rw [show decide (0 ≤ a ∧ a ≤ 127) = okA a by simp only [okA, decide_eq_decide]; omega] at this
  exact this
theorem WithinP (a : Int) (W : World) : Calls Tryz.prog 78 #[.int .i64 a, .int .i64 0, .int .i64 1048575] W fun e w' => e = .returned (.bool (okP a)) ∧ w' = W := by
  have := Within_any a 0 1048575 W
  rw [show decide (0 ≤ a ∧ a ≤ 1048575) = okP a by simp only [okP, decide_eq_decide]; omega] at this
  exact this
theorem WithinF (a : Int) (W : World) : Calls Tryz.prog 78 #[.int .i64 a, .int .i64 0, .int .i64 4095] W fun e w' => e = .returned (.bool (okF a)) ∧ w' = W := by
  have := Within_any a 0 4095 W
  rw [show decide (0 ≤ a ∧ a ≤ 4095) = okF a by simp only [okF, decide_eq_decide]; omega] at this
  exact this
theorem RNew_ok (n : Nat) (h1 : 1 ≤ n) (hn : n ≤ 64) (w : World) :
    Calls Tryz.prog 35 #[.int .i64 n] w fun e w' => ∃ p F, e = .returned (.tuple #[.pointer (some ⟨p, 0, none⟩), .int .i64 0]) ∧ Ca w' F p n [] ∧ Kp (fun _ => False) F w w' := by
  have C : Hid (Calls Tryz.prog 78 #[.int .i64 n, .int .i64 1, .int .i64 64] w fun e w' => e = .returned (.bool true) ∧ w' = w) := by
    have := Within_any n 1 64 w
    rw [show decide (1 ≤ (n : Int) ∧ (n : Int) ≤ 64) = true by simp; omega] at this
    exact this
  have HN : Hid (∀ w', w' = w.alloc (.cells #[.int .i64 n, .slice none 0 0] 137) → ∃ F, Ca w' F w.heap.size n [] ∧ Kp (fun _ => False) F w w') := fun w' e => new_tlb h1 hn e
  go_enter Tryz.func35, Tryz.ntmps35
  go_wp2_with fail
  refine C.out.mono ?_
  rintro e w' ⟨rfl, rfl⟩
  go_wp2
  go_ret2
  obtain ⟨F, hF⟩ := HN.out _ rfl
  exact ⟨w'.heap.size, F, by simp, hF⟩
def askE (a g : Int) : Int := if okA a && okP g then 0 else 2
theorem asked_any {w : World} {p n : Nat} {v : Value} {l : List Tr} (hM : Tb w p n v l) (a g : Int) :
    Calls Tryz.prog 89 #[.pointer (some ⟨p, 0, none⟩), .int .i64 a, .int .i64 g] w fun e w' => e = .returned (.int .i64 (askE a g)) ∧ w' = w := by
  have hc := hM.c0
  have h1 := hM.n1
  have h4 := hM.n64
  have CA : Hid (∀ W, Calls Tryz.prog 78 #[.int .i64 a, .int .i64 0, .int .i64 127] W fun e w' => e = .returned (.bool (okA a)) ∧ w' = W) := WithinA a
  have CP : Hid (∀ W, Calls Tryz.prog 78 #[.int .i64 g, .int .i64 0, .int .i64 1048575] W fun e w' => e = .returned (.bool (okP g)) ∧ w' = W) := WithinP g
  have h5 : ((n : Int) == 0) = false := by simp; omega
  clear hM
  cases ha : okA a with
  | false =>
    rw [show askE a g = 2 by simp [askE, ha]]
    rw [ha] at CA
    go_enter Tryz.func89, Tryz.ntmps89
    go_wp2_with fail
    refine (CA.out _).mono ?_
    rintro e w' ⟨rfl, rfl⟩
    go_wp2
    go_ret
    exact ⟨rfl, rfl⟩
  | true =>
    rw [ha] at CA
    cases hp : okP g with
    | false =>
      rw [show askE a g = 2 by simp [askE, hp]]
      rw [hp] at CP
      go_enter Tryz.func89, Tryz.ntmps89
      go_wp2_with fail
      refine (CA.out _).mono ?_
      rintro e w' ⟨rfl, rfl⟩
      go_wp2_with fail
      refine (CP.out _).mono ?_
      rintro e w' ⟨rfl, rfl⟩
      go_wp2
      go_ret
      exact ⟨rfl, rfl⟩
    | true =>
      rw [show askE a g = 0 by simp [askE, ha, hp]]
      rw [hp] at CP
      go_enter Tryz.func89, Tryz.ntmps89
      go_wp2_with fail
      refine (CA.out _).mono ?_
      rintro e w' ⟨rfl, rfl⟩
      go_wp2_with fail
      refine (CP.out _).mono ?_
      rintro e w' ⟨rfl, rfl⟩
      go_wp2
      go_ret
      exact ⟨rfl, rfl⟩
def aix (a g : Int) : List Tr → Option Nat
  | [] => none
  | x :: l => if hk a g x then some 0 else (aix a g l).map (· + 1)
def atI (a g : Int) (l : List Tr) : Int := match aix a g l with | some k => k | none => -1
theorem aix_at {a g : Int} : ∀ {l : List Tr} {k : Nat} {x : Tr}, (∀ j y, j < k → l[j]? = some y → hk a g y = false) → l[k]? = some x → hk a g x = true → aix a g l = some k
  | [], k, x, _, h, _ => by simp at h
  | y :: l, 0, x, _, h, hx => by
    simp at h
    subst h
    simp [aix, hx]
  | y :: l, k + 1, x, ha, h, hx => by
    have h0 : hk a g y = false := ha 0 y (by omega) rfl
    have := aix_at (l := l) (k := k) (x := x) (fun j z hj hz => ha (j + 1) z (by omega) (by simpa using hz)) (by simpa using h) hx
    simp [aix, h0, this]
theorem aix_none {a g : Int} : ∀ {l : List Tr}, (∀ x ∈ l, hk a g x = false) → aix a g l = none
  | [], _ => rfl
  | y :: l, h => by simp [aix, h y (by simp), aix_none (l := l) (fun x hx => h x (by simp [hx]))]
set_option maxHeartbeats 1000000 in
theorem at_any {w : World} {p n : Nat} {v : Value} {l : List Tr} (hM : Tb w p n v l) (a g : Int) :
    Calls Tryz.prog 90 #[.pointer (some ⟨p, 0, none⟩), .int .i64 a, .int .i64 g] w fun e w' => e = .returned (.int .i64 (atI a g l)) ∧ w' = w := by
  have q1 := hM.c1
  have hln := hM.len
  have hn := hM.n64
  obtain ⟨ao, cap, hv⟩ := hM.own.len
  rw [hv] at q1
  have HO : Hid (Own 0 w v l) := hM.own
  rw [hv] at HO
  clear hM hv
  go_enter Tryz.func90, Tryz.ntmps90
  go_wp2_with fail
  go_loopw [7] (fun i wr => ∃ j : Nat, j ≤ l.length ∧ i = .int .i64 j ∧ wr = w ∧ ∀ k y, k < j → l[k]? = some y → hk a g y = false) (fun i _ => l.length - (intOf i).toNat)
  case atStart => exact ⟨0, by omega, rfl, rfl, fun k y hk => by omega⟩
  case round =>
    obtain ⟨j, hj, rfl, rfl, hA⟩ := hrel
    have HA : Hid (∀ k y, k < j → l[k]? = some y → hk a g y = false) := hA
    clear hA
    by_cases hlt : j < l.length
    · have hg : l[j]? = some l[j] := List.getElem?_eq_getElem hlt
      have HG : Hid (l[j]? = some l[j]) := hg
      obtain ⟨gr, cap', e1, ⟨d0, d1, d2, d3, d4, d5⟩, _, hgl, hc1, hc2⟩ := HO.out.cell hg
      cases e1
      clear hg
      generalize l[j] = z at *
      unfold maxLen at hc2
      by_cases ha : z.a = a
      · have r1 : (z.a == a) = true := by simpa using ha
        by_cases hp : z.p = g
        · have r2 : (z.p == g) = true := by simpa using hp
          have HE : Hid (atI a g l = (j : Int)) := by
            unfold Hid atI
            rw [aix_at HA.out HG.out (by simp [hk, ha, hp])]
          clear ha hp
          go_wp2
          go_ret
          exact ⟨by rw [HE.out]; rfl, rfl⟩
        · have r2 : (z.p == g) = false := by simpa using hp
          have HZ : Hid (hk a g z = false) := by unfold Hid; simp [hk, hp]
          clear ha hp
          go_wp2_with fail
          go_roundw
          case rel => exact ⟨j + 1, by omega, by go_num, trivial, fun k y hk hy => by
            by_cases e : k = j
            · subst e
              rw [HG.out] at hy
              cases hy
              exact HZ.out
            · exact HA.out k y (by omega) hy⟩
          case measure => simp [intOf]; omega
      · have r1 : (z.a == a) = false := by simpa using ha
        have HZ : Hid (hk a g z = false) := by unfold Hid; simp [hk, ha]
        clear ha
        go_wp2_with fail
        go_roundw
        case rel => exact ⟨j + 1, by omega, by go_num, trivial, fun k y hk hy => by
            by_cases e : k = j
            · subst e
              rw [HG.out] at hy
              cases hy
              exact HZ.out
            · exact HA.out k y (by omega) hy⟩
        case measure => simp [intOf]; omega
    · obtain rfl : j = l.length := by omega
      have HE : Hid (atI a g l = -1) := by
        unfold Hid atI
        rw [aix_none (fun x hx => by
          obtain ⟨k, hk, e⟩ := List.getElem_of_mem hx
          exact HA.out k x hk (by rw [List.getElem?_eq_getElem hk, e]))]
      go_wp2
      go_ret
      exact ⟨by rw [HE.out]; rfl, rfl⟩
def wo (at' : Int) (l : List Tr) : List Tr := if at' < 0 then l else l.eraseIdx at'.toNat
theorem wo_is {l : List Tr} {j : Nat} {y : Tr} (h : l[j]? = some y) : wo (j : Int) (l.take (j + 1)) = wo (j : Int) (l.take j) := by
  have hj := (List.getElem?_eq_some_iff.1 h).1
  unfold wo
  rw [if_neg (by omega), if_neg (by omega), List.take_add_one, h]
  simp only [Int.toNat_natCast, Option.toList_some]
  rw [List.eraseIdx_append_of_length_le (by simp; omega), List.eraseIdx_of_length_le (l := l.take j) (by simp; omega)]
  have e : j - (l.take j).length = 0 := by simp; omega
  rw [e]
  simp
theorem wo_no {l : List Tr} {j : Nat} {y : Tr} {at' : Int} (h : l[j]? = some y) (hne : (j : Int) ≠ at') : wo at' (l.take (j + 1)) = wo at' (l.take j) ++ [y] := by
  have hj := (List.getElem?_eq_some_iff.1 h).1
  unfold wo
  rw [List.take_add_one, h]
  by_cases h0 : at' < 0
  · rw [if_pos h0, if_pos h0]
    rfl
  · rw [if_neg h0, if_neg h0]
    simp only [Option.toList_some]
    obtain ⟨k, rfl⟩ : ∃ k : Nat, at' = k := ⟨at'.toNat, by omega⟩
    simp only [Int.toNat_natCast]
    have hlen : (l.take j).length = j := by simp; omega
    by_cases h1 : k < j
    · rw [List.eraseIdx_append_of_lt_length (by omega)]
    · rw [List.eraseIdx_append_of_length_le (by omega), List.eraseIdx_of_length_le (l := l.take j) (by omega)]
      congr 1
      rw [List.eraseIdx_of_length_le]
      simp
      omega
theorem wo_len (at' : Int) (l : List Tr) : (wo at' l).length ≤ l.length := by
  unfold wo
  split
  · exact Nat.le_refl _
  · exact List.length_eraseIdx_le _ _
set_option maxHeartbeats 2000000 in
theorem Rwithout_any {B : Nat} {w : World} {v : Value} {l : List Tr} (ho : Own B w v l) (hl : l.length ≤ 1000) (at' : Int) :
    Calls Tryz.prog 92 #[v, .int .i64 at'] w fun e w' => ∃ v', e = .returned v' ∧ Own w.heap.size w' v' (wo at' l) ∧ Below w.heap.size w w' := by
  obtain ⟨i0, hi0, hz0, hz1, hz2⟩ := info_parts Tryz.infoT
  obtain ⟨ao, cap, hv⟩ := ho.len
  subst hv
  have HO : Hid (Own B w (.slice ao l.length cap) l) := ho
  clear ho
  go_enter Tryz.func92, Tryz.ntmps92
  go_wp2_with fail
  go_loopw [5, 6] (fun v i wr => ∃ j : Nat, j ≤ l.length ∧ i = .int .i64 j ∧ Own w.heap.size wr v (wo at' (l.take j)) ∧ Below w.heap.size w wr) (fun _ i _ => l.length - (intOf i).toNat)
  case atStart => exact ⟨0, by omega, rfl, by simpa [wo] using Own.nil _ _, Below.refl _ _⟩
  case round =>
    obtain ⟨j, hj, rfl, o, hb⟩ := hrel
    have HB : Hid (Below w.heap.size w wr) := hb
    have hsz := hb.size
    have HK : Hid (wr.ownsRow w.heap.size 43 6 u5 (wo at' (l.take j)).length (tv (wo at' (l.take j)))) := o
    have hA : (wo at' (l.take j)).length ≤ 1000 := Nat.le_trans (wo_len _ _) (by simp; omega)
    clear o
    by_cases hlt : j < l.length
    · have hg : l[j]? = some l[j] := List.getElem?_eq_getElem hlt
      have HG : Hid (l[j]? = some l[j]) := hg
      obtain ⟨gr, cap', e1, ⟨d0, d1, d2, d3, d4, d5⟩, _, hgl, hc1, hc2⟩ := (HO.out.below hb).cell hg
      cases e1
      clear hg hb
      generalize l[j] = z at *
      unfold maxLen at hc2
      by_cases ha : (j : Int) = at'
      · have q1 : ((j : Int) != at') = false := by simp [ha]
        have HK2 : Hid (Own w.heap.size wr u5 (wo at' (l.take (j + 1)))) := by
          unfold Hid
          rw [← ha, wo_is HG.out, ha]
          exact HK.out
        clear ha
        go_wp2_with fail
        go_roundw
        case rel => exact ⟨j + 1, by omega, by go_num, HK2.out, HB.out⟩
        case measure => simp [intOf]; omega
      · have q1 : ((j : Int) != at') = true := by simpa using ha
        have HN : Hid (∀ j u, (tc z)[j]? = some u → (wr.alloc (.cells #[.int .i64 z.a, .int .i64 z.p, .int .i64 z.f, .bool z.r, .bool z.w, .bool z.d] 43)).cell? ((⟨wr.heap.size, 0, none⟩ : Addr).add j) = some u) := box_cells wr z 43
        have HT : Hid (∀ v ∈ tc z, v.oneCell' = true) := tc_one z
        have HF : Hid (wo at' (l.take (j + 1)) = wo at' (l.take j) ++ [z]) := wo_no HG.out ha
        clear ha
        obtain ⟨A, hAA⟩ : ∃ A, wo at' (l.take j) = A := ⟨_, rfl⟩
        have HAA : Hid (wo at' (l.take j) = A) := hAA
        rw [hAA] at HK hA HF
        clear hAA
        go_wp2_with (at_builtin; refine wpList_append_own _ rfl (.tmp 16) (.tmp 21) 114 rfl w.heap.size 43 i0 _ 6 32 Tryz.underlying114 hi0 hz0 hz1 hz2 rfl (by decide) _ A.length _ rfl (World.ownsRow.alloc HK.out _) ⟨wr.heap.size, 0, none⟩ 1 1 (tc z) rfl rfl HN.out HT.out (by unfold maxLen; omega) (by omega) (by simp; omega) ?_; intro v3 w3 o3 gr3 nil3)
        go_roundw
        case rel =>
          refine ⟨j + 1, by omega, by go_num, ?_, (HB.out.alloc hsz _).grown gr3 (by simp; omega) (fun k hk => (HK.out.lt k hk).1)⟩
          rw [HF.out]
          unfold Own
          rw [tv_app, List.length_append, show tv [z] = tc z by simp [tv]]
          exact o3
        case measure => simp [intOf]; omega
    · obtain rfl : j = l.length := by omega
      clear hb
      have HK2 : Hid (Own w.heap.size wr u5 (wo at' l)) := by
        have := HK.out
        rw [List.take_of_length_le (Nat.le_refl _)] at this
        exact this
      go_wp2
      go_ret
      exact ⟨_, rfl, HK2.out, HB.out⟩
end Go.Proofs.YtokaohlgncmoaaaGreat.T
namespace Go.Proofs.YtokaohlgncmoaaaGreat.T
open Go.ChangeShapes Go.WideShapes Go.ChangeAt Go.RowKit
set_option linter.unusedVariables false
set_option maxRecDepth 8192

set_option maxHeartbeats 1000000 in
theorem front_any {w : World} {v : Value} {l : List Tr} (ho : Own 0 w v l) (hl : l.length ≤ 1000) (a p f : Int) (r w' d : Bool) :
    Calls Tryz.prog 91 #[.agg #[.int .i64 a, .int .i64 p, .int .i64 f, .bool r, .bool w', .bool d], v] w fun e w1 => ∃ v', e = .returned v' ∧ Own w.heap.size w1 v' (⟨a, p, f, r, w', d⟩ :: l) ∧ Below w.heap.size w w1 := by
  obtain ⟨ao, cap, hv⟩ := ho.len
  subst hv
  have X1 : Hid (Six (w.alloc (.cells #[.int .i64 a, .int .i64 p, .int .i64 f, .bool r, .bool w', .bool d] 43)) w.heap.size 0 ⟨a, p, f, r, w', d⟩) := six_new w ⟨a, p, f, r, w', d⟩ 43
  have B1 : Hid (Below w.heap.size w (w.alloc (.cells #[.int .i64 a, .int .i64 p, .int .i64 f, .bool r, .bool w', .bool d] 43))) := below_new _ _
  have hb1 : w.heap.size < (w.alloc (.cells #[.int .i64 a, .int .i64 p, .int .i64 f, .bool r, .bool w', .bool d] 43)).heap.size := by simp
  have O1 : Hid (Own 0 (w.alloc (.cells #[.int .i64 a, .int .i64 p, .int .i64 f, .bool r, .bool w', .bool d] 43)) (.slice ao l.length cap) l) := ho.below (below_new _ _)
  clear ho
  go_enter Tryz.func91, Tryz.ntmps91
  go_upto_region 1 with fail
  generalize w.alloc (.cells #[.int .i64 a, .int .i64 p, .int .i64 f, .bool r, .bool w', .bool d] 43) = W1 at *
  obtain ⟨x0, x1, x2, x3, x4, x5⟩ := X1.out
  have HFR : Hid (∀ ty, ∃ v' w6, (Builtin.append_ #[114, 114] ty #[.slice (some ⟨W1.heap.size, 0, none⟩) 1 1, .slice ao l.length cap]).run Tryz.prog (W1.alloc (.cells #[.int .i64 a, .int .i64 p, .int .i64 f, .bool r, .bool w', .bool d] 43)) = .ok v' w6 ∧ (Own w.heap.size w6 v' (⟨a, p, f, r, w', d⟩ :: l.take l.length) ∧ (W1.alloc (.cells #[.int .i64 a, .int .i64 p, .int .i64 f, .bool r, .bool w', .bool d] 43)).grownBy w6 (some W1.heap.size))) := fun ty =>
    front_run (blk_new W1 (tc ⟨a, p, f, r, w', d⟩) 43) (by omega) (O1.out.below (below_new _ _)) (Nat.le_refl _) hl ty
  go_wp2_with (at_builtin; refine wpList_append_any rfl (.tmp 8) (.tmp 9) rfl _ _ rfl rfl (HFR.out _) ?_; rintro v6 w6 ⟨o6, g6⟩)
  go_ret
  refine ⟨_, rfl, ?_, (B1.out.alloc (by omega) _).grown g6 (by simp; omega) (fun k hk => by injection hk with hk; omega)⟩
  rw [List.take_of_length_le (Nat.le_refl _)] at o6
  exact o6
theorem Pt.put {w w3 : World} {F : Nat → Prop} {p n : Nat} {v v' : Value} {l l' : List Tr} (h : Pt w F p n v l) (hb : Below w.heap.size w w3) (ho : Own w.heap.size w3 v' l') (hl : l'.length ≤ n) (hu : Uq l') :
    Lv w F p n l' (w3.setCell ⟨p, 1, none⟩ v') := by
  have T3 := h.below hb
  have G := grown_setCell' w3 p 1 v'
  have hp := h.c.lt
  obtain ⟨F', P', K'⟩ := h.turn_new (w' := w3.setCell ⟨p, 1, none⟩ v') v' l' (G.os.trans hb.os) (G.tape.trans hb.tape) (G.output.trans hb.output) (Nat.le_trans hb.size G.size) (fun i hi hip _ => (G.block i (Nat.lt_of_lt_of_le hi hb.size) (some_ne hip)).trans (hb.block i hi)) (by
      rw [World.cell?_setCell_other _ _ _ _ (by intro h; cases h)]
      exact T3.c.c0) (World.cell?_setCell_same _ _ _ T3.c.c1) (by
      rw [World.frozen?_setCell]
      exact T3.c.z1) ((ho.weak (Nat.zero_le _)).of_eq (fun g hg => by
        have := ho.lt g hg
        exact G.block g this.2 (some_ne (by omega)))) (fun g hg => Or.inr (ho.lt g hg).1) hl hu
  exact ⟨F', ⟨_, P'⟩, K'⟩
set_option maxHeartbeats 1000000 in
theorem RPeek_hit {w : World} {F : Nat → Prop} {p n : Nat} {l : List Tr} (h : Ca w F p n l) (a g : Int) (ha : okA a = true) (hg : okP g = true) {k : Nat} {x : Tr} (hx : Ix a g l k x) :
    Calls Tryz.prog 93 #[.pointer (some ⟨p, 0, none⟩), .int .i64 a, .int .i64 g] w fun e w' => e = .returned (.tuple #[.agg #[.int .i64 x.a, .int .i64 x.p, .int .i64 x.f, .bool x.r, .bool x.w, .bool x.d], .bool true, .int .i64 0]) ∧ Below w.heap.size w w' := by
  obtain ⟨v, hP⟩ := h
  have B0 : Hid (Below w.heap.size w (w.alloc (.cells #[.int .i64 0, .int .i64 0, .int .i64 0, .bool false, .bool false, .bool false] 43))) := below_new _ _
  have Z0 : Hid (Six (w.alloc (.cells #[.int .i64 0, .int .i64 0, .int .i64 0, .bool false, .bool false, .bool false] 43)) w.heap.size 0 z0) := z6_new w
  have ZF : Hid (∀ j, (w.alloc (.cells #[.int .i64 0, .int .i64 0, .int .i64 0, .bool false, .bool false, .bool false] 43)).frozen? ⟨w.heap.size, j, none⟩ = false) := fz_new w _ _
  have hb0 : w.heap.size < (w.alloc (.cells #[.int .i64 0, .int .i64 0, .int .i64 0, .bool false, .bool false, .bool false] 43)).heap.size := by simp
  have HP : Hid (Tb (w.alloc (.cells #[.int .i64 0, .int .i64 0, .int .i64 0, .bool false, .bool false, .bool false] 43)) p n v l) := hP.c.below (below_new _ _)
  have hl := hP.c.len
  have hn := hP.c.n64
  have hplt := hP.c.lt
  have hne : Hid (∀ g, v.ownBlock = some g → g < w.heap.size) := fun g hg => (hP.c.own.lt g hg).2
  have HX : Hid (l[k]? = some x) := hx.at'
  have hkl : k < l.length := (List.getElem?_eq_some_iff.1 hx.at').1
  have CA : Hid (Calls Tryz.prog 89 #[.pointer (some ⟨p, 0, none⟩), .int .i64 a, .int .i64 g] (w.alloc (.cells #[.int .i64 0, .int .i64 0, .int .i64 0, .bool false, .bool false, .bool false] 43)) fun e w' => e = .returned (.int .i64 0) ∧ w' = (w.alloc (.cells #[.int .i64 0, .int .i64 0, .int .i64 0, .bool false, .bool false, .bool false] 43))) := by
    have := asked_any HP.out a g
    rw [show askE a g = 0 by simp [askE, ha, hg]] at this
    exact this
  have CT : Hid (Calls Tryz.prog 90 #[.pointer (some ⟨p, 0, none⟩), .int .i64 a, .int .i64 g] (w.alloc (.cells #[.int .i64 0, .int .i64 0, .int .i64 0, .bool false, .bool false, .bool false] 43)) fun e w' => e = .returned (.int .i64 k) ∧ w' = (w.alloc (.cells #[.int .i64 0, .int .i64 0, .int .i64 0, .bool false, .bool false, .bool false] 43))) := by
    have := at_any HP.out a g
    rw [show atI a g l = (k : Int) by unfold atI; rw [aix_at hx.ahead hx.at' hx.is]] at this
    exact this
  clear hP ha hg hx
  go_enter Tryz.func93, Tryz.ntmps93
  go_wp2_with fail
  generalize (w.alloc (.cells #[.int .i64 0, .int .i64 0, .int .i64 0, .bool false, .bool false, .bool false] 43)) = W0 at *
  generalize hbz : w.heap.size = b0 at *
  refine CA.out.mono ?_
  rintro e w1 ⟨rfl, rfl⟩
  go_wp2_with fail
  refine CT.out.mono ?_
  rintro e w1 ⟨rfl, rfl⟩
  obtain ⟨y0, y1, y2, y3, y4, y5⟩ := Z0.out
  have y6 := ZF.out 0
  have y7 := ZF.out 1
  have y8 := ZF.out 2
  have y9 := ZF.out 3
  have y10 := ZF.out 4
  have y11 := ZF.out 5
  obtain ⟨gr, cap, e1, h6, _, hgl, hc1, hc2⟩ := HP.out.own.cell HX.out
  have hgb : gr < b0 := hne.out gr (by rw [e1]; rfl)
  have hc := HP.out.c1
  rw [e1] at hc
  obtain ⟨d0, d1, d2, d3, d4, d5⟩ := h6
  clear CA CT e1
  unfold maxLen at hc2
  go_wp2
  exact bodyPost_ret (v := .tuple #[.agg #[.int .i64 x.a, .int .i64 x.p, .int .i64 x.f, .bool x.r, .bool x.w, .bool x.d], .bool true, .int .i64 0]) (by simp [results, Tryz.results93, go_sem, *]) rfl ⟨rfl, by subst hbz; exact B0.out.grown (grown6 _ _ _ _ _ _ _ _ _ _ _ _ _ _) B0.out.size (fun k hk => by injection hk with hk; omega)⟩
set_option maxHeartbeats 1000000 in
theorem RPeek_none {w : World} {F : Nat → Prop} {p n : Nat} {l : List Tr} (h : Ca w F p n l) (a g : Int) (ha : okA a = true) (hg : okP g = true) (hx : ∀ x ∈ l, hk a g x = false) :
    Calls Tryz.prog 93 #[.pointer (some ⟨p, 0, none⟩), .int .i64 a, .int .i64 g] w fun e w' => e = .returned (.tuple #[.agg #[.int .i64 0, .int .i64 0, .int .i64 0, .bool false, .bool false, .bool false], .bool false, .int .i64 0]) ∧ Below w.heap.size w w' := by
  obtain ⟨v, hP⟩ := h
  have B0 : Hid (Below w.heap.size w (w.alloc (.cells #[.int .i64 0, .int .i64 0, .int .i64 0, .bool false, .bool false, .bool false] 43))) := below_new _ _
  have Z0 : Hid (Six (w.alloc (.cells #[.int .i64 0, .int .i64 0, .int .i64 0, .bool false, .bool false, .bool false] 43)) w.heap.size 0 z0) := z6_new w
  have ZF : Hid (∀ j, (w.alloc (.cells #[.int .i64 0, .int .i64 0, .int .i64 0, .bool false, .bool false, .bool false] 43)).frozen? ⟨w.heap.size, j, none⟩ = false) := fz_new w _ _
  have HP : Hid (Tb (w.alloc (.cells #[.int .i64 0, .int .i64 0, .int .i64 0, .bool false, .bool false, .bool false] 43)) p n v l) := hP.c.below (below_new _ _)
  have CA : Hid (Calls Tryz.prog 89 #[.pointer (some ⟨p, 0, none⟩), .int .i64 a, .int .i64 g] (w.alloc (.cells #[.int .i64 0, .int .i64 0, .int .i64 0, .bool false, .bool false, .bool false] 43)) fun e w' => e = .returned (.int .i64 0) ∧ w' = (w.alloc (.cells #[.int .i64 0, .int .i64 0, .int .i64 0, .bool false, .bool false, .bool false] 43))) := by
    have := asked_any HP.out a g
    rw [show askE a g = 0 by simp [askE, ha, hg]] at this
    exact this
  have CT : Hid (Calls Tryz.prog 90 #[.pointer (some ⟨p, 0, none⟩), .int .i64 a, .int .i64 g] (w.alloc (.cells #[.int .i64 0, .int .i64 0, .int .i64 0, .bool false, .bool false, .bool false] 43)) fun e w' => e = .returned (.int .i64 (-1)) ∧ w' = (w.alloc (.cells #[.int .i64 0, .int .i64 0, .int .i64 0, .bool false, .bool false, .bool false] 43))) := by
    have := at_any HP.out a g
    rw [show atI a g l = -1 by unfold atI; rw [aix_none hx]] at this
    exact this
  clear hP ha hg hx
  go_enter Tryz.func93, Tryz.ntmps93
  go_wp2_with fail
  generalize (w.alloc (.cells #[.int .i64 0, .int .i64 0, .int .i64 0, .bool false, .bool false, .bool false] 43)) = W0 at *
  generalize hbz : w.heap.size = b0 at *
  refine CA.out.mono ?_
  rintro e w1 ⟨rfl, rfl⟩
  go_wp2_with fail
  refine CT.out.mono ?_
  rintro e w1 ⟨rfl, rfl⟩
  obtain ⟨y0, y1, y2, y3, y4, y5⟩ := Z0.out
  have y6 := ZF.out 0
  have y7 := ZF.out 1
  have y8 := ZF.out 2
  have y9 := ZF.out 3
  have y10 := ZF.out 4
  have y11 := ZF.out 5
  clear CA CT
  go_wp2
  exact bodyPost_ret (v := .tuple #[.agg #[.int .i64 0, .int .i64 0, .int .i64 0, .bool false, .bool false, .bool false], .bool false, .int .i64 0]) (by simp [results, Tryz.results93, go_sem, *]) rfl ⟨rfl, by subst hbz; exact B0.out.grown (grown6 _ _ _ _ _ _ _ _ _ _ _ _ _ _) B0.out.size (fun k hk => by injection hk with hk; omega)⟩
set_option maxHeartbeats 1000000 in
theorem RPeek_err {w : World} {q : Option Addr} (a g : Int) (er : Int) (he : (er != 0) = true) (hA : ∀ W, Below w.heap.size w W → Calls Tryz.prog 89 #[.pointer q, .int .i64 a, .int .i64 g] W fun e w' => e = .returned (.int .i64 er) ∧ w' = W) :
    Calls Tryz.prog 93 #[.pointer q, .int .i64 a, .int .i64 g] w fun e w' => e = .returned (.tuple #[.agg #[.int .i64 0, .int .i64 0, .int .i64 0, .bool false, .bool false, .bool false], .bool false, .int .i64 er]) ∧ Below w.heap.size w w' := by
  have B0 : Hid (Below w.heap.size w (w.alloc (.cells #[.int .i64 0, .int .i64 0, .int .i64 0, .bool false, .bool false, .bool false] 43))) := below_new _ _
  have Z0 : Hid (Six (w.alloc (.cells #[.int .i64 0, .int .i64 0, .int .i64 0, .bool false, .bool false, .bool false] 43)) w.heap.size 0 z0) := z6_new w
  have ZF : Hid (∀ j, (w.alloc (.cells #[.int .i64 0, .int .i64 0, .int .i64 0, .bool false, .bool false, .bool false] 43)).frozen? ⟨w.heap.size, j, none⟩ = false) := fz_new w _ _
  have CA : Hid (Calls Tryz.prog 89 #[.pointer q, .int .i64 a, .int .i64 g] (w.alloc (.cells #[.int .i64 0, .int .i64 0, .int .i64 0, .bool false, .bool false, .bool false] 43)) fun e w' => e = .returned (.int .i64 er) ∧ w' = (w.alloc (.cells #[.int .i64 0, .int .i64 0, .int .i64 0, .bool false, .bool false, .bool false] 43))) := hA _ (below_new _ _)
  clear hA
  go_enter Tryz.func93, Tryz.ntmps93
  go_wp2_with fail
  generalize (w.alloc (.cells #[.int .i64 0, .int .i64 0, .int .i64 0, .bool false, .bool false, .bool false] 43)) = W0 at *
  generalize hbz : w.heap.size = b0 at *
  refine CA.out.mono ?_
  rintro e w1 ⟨rfl, rfl⟩
  obtain ⟨y0, y1, y2, y3, y4, y5⟩ := Z0.out
  have y6 := ZF.out 0
  have y7 := ZF.out 1
  have y8 := ZF.out 2
  have y9 := ZF.out 3
  have y10 := ZF.out 4
  have y11 := ZF.out 5
  clear CA
  go_wp2
  exact bodyPost_ret (v := .tuple #[.agg #[.int .i64 0, .int .i64 0, .int .i64 0, .bool false, .bool false, .bool false], .bool false, .int .i64 er]) (by simp [results, Tryz.results93, go_sem, *]) rfl ⟨rfl, by subst hbz; exact B0.out.grown (grown6 _ _ _ _ _ _ _ _ _ _ _ _ _ _) B0.out.size (fun k hk => by injection hk with hk; omega)⟩
theorem RPeek_ok {w : World} {F : Nat → Prop} {p n : Nat} {l : List Tr} (h : Ca w F p n l) (a g : Int) :
    Calls Tryz.prog 93 #[.pointer (some ⟨p, 0, none⟩), .int .i64 a, .int .i64 g] w fun e w' => e = .returned (.tuple #[.agg #[.int .i64 (pk a g l).1.a, .int .i64 (pk a g l).1.p, .int .i64 (pk a g l).1.f, .bool (pk a g l).1.r, .bool (pk a g l).1.w, .bool (pk a g l).1.d], .bool (pk a g l).2.1, .int .i64 (pk a g l).2.2]) ∧ Below w.heap.size w w' := by
  rcases isT_cases (a := a) (p := g) (l := l) with ⟨ha, hg, k, x, hx, e⟩ | ⟨ha, hg, hx, e⟩ | hb
  · rw [show pk a g l = (x, true, 0) by simp [pk, ha, hg, e]]
    exact RPeek_hit h a g ha hg hx
  · rw [show pk a g l = (z0, false, 0) by simp [pk, ha, hg, e]]
    exact RPeek_none h a g ha hg hx
  · rw [show pk a g l = (z0, false, 2) by simp [pk, bad_and hb]]
    obtain ⟨v, hP⟩ := h
    refine RPeek_err a g 2 rfl (fun W hW => ?_)
    have := asked_any (hP.c.below hW) a g
    rw [show askE a g = 2 by simp [askE, bad_and hb]] at this
    exact this
theorem at_told {w : World} {p n : Nat} {v : Value} {l : List Tr} (hM : Tb w p n v l) {a g : Int} {k : Nat} {x : Tr} (hx : Ix a g l k x) :
    Calls Tryz.prog 90 #[.pointer (some ⟨p, 0, none⟩), .int .i64 a, .int .i64 g] w fun e w' => e = .returned (.int .i64 k) ∧ w' = w := by
  have := at_any hM a g
  rw [show atI a g l = (k : Int) by unfold atI; rw [aix_at hx.ahead hx.at' hx.is]] at this
  exact this
theorem wo_rm {a g : Int} {l : List Tr} {k : Nat} {x : Tr} (hu : Uq l) (hx : Ix a g l k x) : wo (k : Int) l = rm a g l := by
  rw [rm_at hu hx.at' hx.is]
  unfold wo
  rw [if_neg (by omega), Int.toNat_natCast, List.eraseIdx_eq_take_drop_succ]
end Go.Proofs.YtokaohlgncmoaaaGreat.T
namespace Go.Proofs.YtokaohlgncmoaaaGreat.T
open Go.ChangeShapes Go.WideShapes Go.ChangeAt Go.RowKit
set_option linter.unusedVariables false
set_option maxRecDepth 8192

theorem Pt.ca {w : World} {F : Nat → Prop} {p n : Nat} {v : Value} {l : List Tr} (h : Pt w F p n v l) : Ca w F p n l := ⟨v, h⟩
theorem Own.sl {B : Nat} {w : World} {v : Value} {l : List Tr} (h : Own B w v l) : ∃ a m c, v = .slice a m c := by
  obtain ⟨a, c, e⟩ := h.len
  exact ⟨a, _, c, e⟩
set_option maxHeartbeats 2000000 in
theorem RFind_hit {w : World} {F : Nat → Prop} {p n : Nat} {l : List Tr} (h : Ca w F p n l) (a g : Int) (ha : okA a = true) (hg : okP g = true) {k : Nat} {x : Tr} (hx : Ix a g l k x) :
    Calls Tryz.prog 49 #[.pointer (some ⟨p, 0, none⟩), .int .i64 a, .int .i64 g] w fun e w' => e = .returned (.tuple #[.agg #[.int .i64 x.a, .int .i64 x.p, .int .i64 x.f, .bool x.r, .bool x.w, .bool x.d], .bool true, .int .i64 0]) ∧ Lv w F p n (x :: rm a g l) w' := by
  obtain ⟨v, hP⟩ := h
  have B0 : Hid (Below w.heap.size w (w.alloc (.cells #[.int .i64 0, .int .i64 0, .int .i64 0, .bool false, .bool false, .bool false] 43))) := below_new _ _
  have Z0 : Hid (Six (w.alloc (.cells #[.int .i64 0, .int .i64 0, .int .i64 0, .bool false, .bool false, .bool false] 43)) w.heap.size 0 z0) := z6_new w
  have ZF : Hid (∀ j, (w.alloc (.cells #[.int .i64 0, .int .i64 0, .int .i64 0, .bool false, .bool false, .bool false] 43)).frozen? ⟨w.heap.size, j, none⟩ = false) := fz_new w _ _
  have hb0 : w.heap.size < (w.alloc (.cells #[.int .i64 0, .int .i64 0, .int .i64 0, .bool false, .bool false, .bool false] 43)).heap.size := by simp
  have HP : Hid (Pt (w.alloc (.cells #[.int .i64 0, .int .i64 0, .int .i64 0, .bool false, .bool false, .bool false] 43)) F p n v l) := hP.below (below_new _ _)
  have hl := hP.c.len
  have hn := hP.c.n64
  have hplt := hP.c.lt
  have HF : Hid (∀ k, F k → k < w.heap.size) := hP.lt
  have HX : Hid (Ix a g l k x) := hx
  have CS : Hid (Calls _ _ _ _ _) := RPeek_hit HP.out.ca a g ha hg hx
  clear hP ha hg hx
  go_enter Tryz.func49, Tryz.ntmps49
  go_wp2_with fail
  generalize (w.alloc (.cells #[.int .i64 0, .int .i64 0, .int .i64 0, .bool false, .bool false, .bool false] 43)) = W0 at *
  generalize hbz : w.heap.size = b0 at *
  refine CS.out.mono ?_
  rintro e w1 ⟨rfl, hb⟩
  have T1 : Hid (Pt w1 F p n v l) := HP.out.below hb
  have B1 : Hid (Below b0 w w1) := B0.out.trans (hb.mono (by omega))
  have hsz := hb.size
  have Z1 : Hid (Six w1 b0 0 z0) := Z0.out.below hb0 hb
  have ZF1 : Hid (∀ j, w1.frozen? ⟨b0, j, none⟩ = false) := fun j => (hb.frozen (p := ⟨b0, j, none⟩) hb0).trans (ZF.out j)
  clear hb CS Z0 ZF HP
  go_wp2_with fail
  have T2 : Hid (Pt (w1.alloc (.cells #[.int .i64 x.a, .int .i64 x.p, .int .i64 x.f, .bool x.r, .bool x.w, .bool x.d] 43)).drew F p n v l) := T1.out.below (below_new _ _).drew
  have B2 : Hid (Below b0 w (w1.alloc (.cells #[.int .i64 x.a, .int .i64 x.p, .int .i64 x.f, .bool x.r, .bool x.w, .bool x.d] 43)).drew) := (B1.out.alloc (by omega) _).drew
  have Z2 : Hid (Six (w1.alloc (.cells #[.int .i64 x.a, .int .i64 x.p, .int .i64 x.f, .bool x.r, .bool x.w, .bool x.d] 43)).drew b0 0 z0) := Z1.out.below (by omega) (below_new _ _).drew
  have ZF2 : Hid (∀ j, (w1.alloc (.cells #[.int .i64 x.a, .int .i64 x.p, .int .i64 x.f, .bool x.r, .bool x.w, .bool x.d] 43)).drew.frozen? ⟨b0, j, none⟩ = false) := fun j => ((below_new w1 _).drew.frozen (p := ⟨b0, j, none⟩) (show b0 < w1.heap.size by omega)).trans (ZF1.out j)
  have X2 : Hid (Six (w1.alloc (.cells #[.int .i64 x.a, .int .i64 x.p, .int .i64 x.f, .bool x.r, .bool x.w, .bool x.d] 43)).drew w1.heap.size 0 x) := (six_new w1 x 43).of_eq rfl
  have hb2 : w1.heap.size < (w1.alloc (.cells #[.int .i64 x.a, .int .i64 x.p, .int .i64 x.f, .bool x.r, .bool x.w, .bool x.d] 43)).drew.heap.size := by show _ < (w1.alloc _).heap.size; simp
  generalize hw2 : w1.alloc (.cells #[.int .i64 x.a, .int .i64 x.p, .int .i64 x.f, .bool x.r, .bool x.w, .bool x.d] 43) = w2 at *
  generalize hbx : w1.heap.size = bx at *
  clear Z1 ZF1 hw2
  have K2 : Hid (Sx w2.drew bx x ∧ w2.drew.cell? ⟨p, 1, none⟩ = some v ∧ w2.drew.frozen? ⟨p, 1, none⟩ = false) := ⟨X2.out.sx, T2.out.c.c1, T2.out.c.z1⟩
  have CT : Hid (Calls _ _ _ _ _) := at_told T2.out.c HX.out
  have CW : Hid (Calls _ _ _ _ _) := Rwithout_any T2.out.c.own (by omega) (k : Int)
  have HR : Hid (wo (k : Int) l = rm a g l) := wo_rm T2.out.c.uq HX.out
  rw [HR.out] at CW
  have hrl := rm_len a g l
  have HLN : Hid ((x :: rm a g l).length ≤ n) := by
    have h1 := rm_len_at T2.out.c.uq HX.out.at' HX.out.is
    unfold Hid
    rw [List.length_cons]
    omega
  have HUQ : Hid (Uq (x :: rm a g l)) := by
    obtain ⟨e1, e2⟩ := hk_eq HX.out.is
    unfold Hid
    rw [← e1, ← e2]
    exact T2.out.c.uq.front x
  obtain ⟨⟨d0, d1, d2, d3, d4, d5⟩, q1, z1⟩ := K2.out
  go_region_with (first
      | (go_at_call 90; refine CT.out.mono ?_; rintro e w' ⟨rfl, rfl⟩)
      | (go_at_call 92; refine CW.out.mono ?_; rintro e w3 ⟨v3, rfl, o3, hb3⟩; obtain ⟨d0, d1, d2, d3, d4, d5⟩ := (X2.out.below hb2 hb3).sx; have A3 : Hid (Own w2.drew.heap.size w3 v3 (rm a g l)) := o3; have B3 : Hid (Below w2.drew.heap.size w2.drew w3) := hb3; clear o3 hb3)
      | (go_at_call 91; refine (front_any (A3.out.weak (Nat.zero_le _)) (by omega) _ _ _ _ _ _).mono ?_; rintro e w4 ⟨v4, rfl, o4, hb4⟩; obtain ⟨a4, m4, c4, rfl⟩ := o4.sl; have B4 : Hid (Below w2.drew.heap.size w2.drew w4) := B3.out.trans (hb4.mono B3.out.size); have q1 := (T2.out.below B4.out).c.c1; have z1 := (T2.out.below B4.out).c.z1; have A4 : Hid (Own w2.drew.heap.size w4 (.slice a4 m4 c4) (x :: rm a g l)) := o4.weak B3.out.size; clear o4 hb4))
  all_goals (
    have hs4 := B4.out.size
    have G : w4.grownBy (w4.setCell ⟨p, 1, none⟩ (.slice a4 m4 c4)) (some p) := grown_setCell' w4 p 1 _
    have L5 : Hid (Lv w2.drew F p n (x :: rm a g l) (w4.setCell ⟨p, 1, none⟩ (.slice a4 m4 c4))) := T2.out.put B4.out A4.out HLN.out HUQ.out
    have X5 : Hid (Six (w4.setCell ⟨p, 1, none⟩ (.slice a4 m4 c4)) bx 0 x) := (X2.out.below hb2 B4.out).of_eq (G.block bx (by omega) (some_ne (by omega)))
    have Z5 : Hid (Six (w4.setCell ⟨p, 1, none⟩ (.slice a4 m4 c4)) b0 0 z0) := (Z2.out.below (by omega) B4.out).of_eq (G.block b0 (by omega) (some_ne (by omega)))
    have ZF5 : Hid (∀ j, (w4.setCell ⟨p, 1, none⟩ (.slice a4 m4 c4)).frozen? ⟨b0, j, none⟩ = false) := fun j => (G.frozen_far ⟨b0, j, none⟩ (show b0 < w4.heap.size by omega) (some_ne (show b0 ≠ p by omega))).trans ((B4.out.frozen (p := ⟨b0, j, none⟩) (show b0 < w2.drew.heap.size by omega)).trans (ZF2.out j))
    clear d0 d1 d2 d3 d4 d5 q1 z1 G A3 A4 B3 B4 CT CW
    generalize w4.setCell ⟨p, 1, none⟩ (.slice a4 m4 c4) = w5 at *
    obtain ⟨y0, y1, y2, y3, y4, y5⟩ := Z5.out
    obtain ⟨d0, d1, d2, d3, d4, d5⟩ := X5.out
    have y6 := ZF5.out 0
    have y7 := ZF5.out 1
    have y8 := ZF5.out 2
    have y9 := ZF5.out 3
    have y10 := ZF5.out 4
    have y11 := ZF5.out 5
    go_wp2
    exact bodyPost_ret (v := .tuple #[.agg #[.int .i64 x.a, .int .i64 x.p, .int .i64 x.f, .bool x.r, .bool x.w, .bool x.d], .bool true, .int .i64 0]) (by simp [results, Tryz.results49, go_sem, *]) rfl ⟨rfl, by subst hbz; exact Lv.fin HF.out B2.out L5.out (grown6 _ _ _ _ _ _ _ _ _ _ _ _ _ _) (Nat.le_refl _) (by omega)⟩)
end Go.Proofs.YtokaohlgncmoaaaGreat.T
