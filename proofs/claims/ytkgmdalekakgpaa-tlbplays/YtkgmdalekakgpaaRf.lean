/- The reference's TLB: Within, New, asked, at, without, front, Peek. -/
import Derived.Test.YtkgmdalekakgpaaAw
namespace Go.Proofs.Ytkgmdalekakgpaa
open Go.ChangeShapes Go.WideShapes Go.ChangeAt Go.RowKit
set_option linter.unusedVariables false

theorem Within_any (n lo hi : Int) (w : World) : Calls Try.prog 28 #[.int .i64 n, .int .i64 lo, .int .i64 hi] w fun e w' => e = .returned (.bool (decide (lo ≤ n ∧ n ≤ hi))) ∧ w' = w := by
  by_cases h0 : lo ≤ n
  · by_cases h1 : n ≤ hi
    · rw [show decide (lo ≤ n ∧ n ≤ hi) = true by simp [h0, h1]]
      go_enter Try.func28, Try.ntmps28
      go_wp2
      go_ret
      exact ⟨rfl, rfl⟩
    · rw [show decide (lo ≤ n ∧ n ≤ hi) = false by simp [h1]]
      go_enter Try.func28, Try.ntmps28
      go_wp2
      go_ret
      exact ⟨rfl, rfl⟩
  · rw [show decide (lo ≤ n ∧ n ≤ hi) = false by simp [h0]]
    go_enter Try.func28, Try.ntmps28
    go_wp2
    go_ret
    exact ⟨rfl, rfl⟩
theorem WithinA (a : Int) (W : World) : Calls Try.prog 28 #[.int .i64 a, .int .i64 0, .int .i64 127] W fun e w' => e = .returned (.bool (okA a)) ∧ w' = W := by
  have := Within_any a 0 127 W
  rw [show decide (0 ≤ a ∧ a ≤ 127) = okA a by simp only [okA, decide_eq_decide]; omega] at this
  exact this
theorem WithinP (a : Int) (W : World) : Calls Try.prog 28 #[.int .i64 a, .int .i64 0, .int .i64 1048575] W fun e w' => e = .returned (.bool (okP a)) ∧ w' = W := by
  have := Within_any a 0 1048575 W
  rw [show decide (0 ≤ a ∧ a ≤ 1048575) = okP a by simp only [okP, decide_eq_decide]; omega] at this
  exact this
theorem WithinF (a : Int) (W : World) : Calls Try.prog 28 #[.int .i64 a, .int .i64 0, .int .i64 4095] W fun e w' => e = .returned (.bool (okF a)) ∧ w' = W := by
  have := Within_any a 0 4095 W
  rw [show decide (0 ≤ a ∧ a ≤ 4095) = okF a by simp only [okF, decide_eq_decide]; omega] at this
  exact this
theorem RNew_no (n : Int) (h : n < 1 ∨ 64 < n) (w : World) :
    Calls Try.prog 9 #[.int .i64 n] w fun e w' => e = .returned (.tuple #[.pointer none, .int .i64 2]) ∧ w' = w := by
  have C : Hid (Calls Try.prog 28 #[.int .i64 n, .int .i64 1, .int .i64 64] w fun e w' => e = .returned (.bool false) ∧ w' = w) := by
    have := Within_any n 1 64 w
    rw [show decide (1 ≤ n ∧ n ≤ 64) = false by simp; omega] at this
    exact this
  clear h
  go_enter Try.func9, Try.ntmps9
  go_wp2_with fail
  refine C.out.mono ?_
  rintro e w' ⟨rfl, rfl⟩
  go_wp2
  go_ret2
  exact ⟨rfl, rfl⟩
theorem RNew_ok (n : Nat) (h1 : 1 ≤ n) (hn : n ≤ 64) (w : World) :
    Calls Try.prog 9 #[.int .i64 n] w fun e w' => ∃ p F, e = .returned (.tuple #[.pointer (some ⟨p, 0, none⟩), .int .i64 0]) ∧ Ca w' F p n [] ∧ Kp (fun _ => False) F w w' := by
  have C : Hid (Calls Try.prog 28 #[.int .i64 n, .int .i64 1, .int .i64 64] w fun e w' => e = .returned (.bool true) ∧ w' = w) := by
    have := Within_any n 1 64 w
    rw [show decide (1 ≤ (n : Int) ∧ (n : Int) ≤ 64) = true by simp; omega] at this
    exact this
  have HN : Hid (∀ w', w' = w.alloc (.cells #[.int .i64 n, .slice none 0 0] 65) → ∃ F, Ca w' F w.heap.size n [] ∧ Kp (fun _ => False) F w w') := fun w' e => new_tlb h1 hn e
  go_enter Try.func9, Try.ntmps9
  go_wp2_with fail
  refine C.out.mono ?_
  rintro e w' ⟨rfl, rfl⟩
  go_wp2
  go_ret2
  obtain ⟨F, hF⟩ := HN.out _ rfl
  exact ⟨w'.heap.size, F, by simp, hF⟩
theorem asked_nil (a g : Int) (w : World) :
    Calls Try.prog 47 #[.pointer none, .int .i64 a, .int .i64 g] w fun e w' => e = .returned (.int .i64 1) ∧ w' = w := by
  go_enter Try.func47, Try.ntmps47
  go_wp2
  go_ret
  exact ⟨rfl, rfl⟩
/-- What is wrong with a call. -/
def askE (a g : Int) : Int := if okA a && okP g then 0 else 2
theorem asked_any {w : World} {p n : Nat} {v : Value} {l : List Tr} (hM : Tb w p n v l) (a g : Int) :
    Calls Try.prog 47 #[.pointer (some ⟨p, 0, none⟩), .int .i64 a, .int .i64 g] w fun e w' => e = .returned (.int .i64 (askE a g)) ∧ w' = w := by
  have hc := hM.c0
  have h1 := hM.n1
  have h4 := hM.n64
  have CA : Hid (∀ W, Calls Try.prog 28 #[.int .i64 a, .int .i64 0, .int .i64 127] W fun e w' => e = .returned (.bool (okA a)) ∧ w' = W) := WithinA a
  have CP : Hid (∀ W, Calls Try.prog 28 #[.int .i64 g, .int .i64 0, .int .i64 1048575] W fun e w' => e = .returned (.bool (okP g)) ∧ w' = W) := WithinP g
  have h5 : ((n : Int) == 0) = false := by simp; omega
  clear hM
  cases ha : okA a with
  | false =>
    rw [show askE a g = 2 by simp [askE, ha]]
    rw [ha] at CA
    go_enter Try.func47, Try.ntmps47
    go_wp2_with fail
    refine (CA.out _).mono ?_
    rintro e w' ⟨rfl, rfl⟩
    go_wp2
    go_ret
    exact ⟨rfl, rfl⟩
  | true =>
    rw [ha] at CA
    cases hp : okP g with
    | false =>
      rw [show askE a g = 2 by simp [askE, hp]]
      rw [hp] at CP
      go_enter Try.func47, Try.ntmps47
      go_wp2_with fail
      refine (CA.out _).mono ?_
      rintro e w' ⟨rfl, rfl⟩
      go_wp2_with fail
      refine (CP.out _).mono ?_
      rintro e w' ⟨rfl, rfl⟩
      go_wp2
      go_ret
      exact ⟨rfl, rfl⟩
    | true =>
      rw [show askE a g = 0 by simp [askE, ha, hp]]
      rw [hp] at CP
      go_enter Try.func47, Try.ntmps47
      go_wp2_with fail
      refine (CA.out _).mono ?_
      rintro e w' ⟨rfl, rfl⟩
      go_wp2_with fail
      refine (CP.out _).mono ?_
      rintro e w' ⟨rfl, rfl⟩
      go_wp2
      go_ret
      exact ⟨rfl, rfl⟩
/-- Where a page's translation stands. -/
def aix (a g : Int) : List Tr → Option Nat
  | [] => none
  | x :: l => if hk a g x then some 0 else (aix a g l).map (· + 1)
def atI (a g : Int) (l : List Tr) : Int := match aix a g l with | some k => k | none => -1
theorem aix_at {a g : Int} : ∀ {l : List Tr} {k : Nat} {x : Tr}, (∀ j y, j < k → l[j]? = some y → hk a g y = false) → l[k]? = some x → hk a g x = true → aix a g l = some k
  | [], k, x, _, h, _ => by simp at h
  | y :: l, 0, x, _, h, hx => by
    simp at h
    subst h
    simp [aix, hx]
  | y :: l, k + 1, x, ha, h, hx => by
    have h0 : hk a g y = false := ha 0 y (by omega) rfl
    have := aix_at (l := l) (k := k) (x := x) (fun j z hj hz => ha (j + 1) z (by omega) (by simpa using hz)) (by simpa using h) hx
    simp [aix, h0, this]
theorem aix_none {a g : Int} : ∀ {l : List Tr}, (∀ x ∈ l, hk a g x = false) → aix a g l = none
  | [], _ => rfl
  | y :: l, h => by simp [aix, h y (by simp), aix_none (l := l) (fun x hx => h x (by simp [hx]))]
set_option maxHeartbeats 1000000 in
theorem at_any {w : World} {p n : Nat} {v : Value} {l : List Tr} (hM : Tb w p n v l) (a g : Int) :
    Calls Try.prog 46 #[.pointer (some ⟨p, 0, none⟩), .int .i64 a, .int .i64 g] w fun e w' => e = .returned (.int .i64 (atI a g l)) ∧ w' = w := by
  have q1 := hM.c1
  have hln := hM.len
  have hn := hM.n64
  obtain ⟨ao, cap, hv⟩ := hM.own.len
  rw [hv] at q1
  have HO : Hid (Own 0 w v l) := hM.own
  rw [hv] at HO
  clear hM hv
  go_enter Try.func46, Try.ntmps46
  go_wp2_with fail
  go_loopw [7] (fun i wr => ∃ j : Nat, j ≤ l.length ∧ i = .int .i64 j ∧ wr = w ∧ ∀ k y, k < j → l[k]? = some y → hk a g y = false) (fun i _ => l.length - (intOf i).toNat)
  case atStart => exact ⟨0, by omega, rfl, rfl, fun k y hk => by omega⟩
  case round =>
    obtain ⟨j, hj, rfl, rfl, hA⟩ := hrel
    have HA : Hid (∀ k y, k < j → l[k]? = some y → hk a g y = false) := hA
    clear hA
    by_cases hlt : j < l.length
    · have hg : l[j]? = some l[j] := List.getElem?_eq_getElem hlt
      have HG : Hid (l[j]? = some l[j]) := hg
      obtain ⟨gr, cap', e1, ⟨d0, d1, d2, d3, d4, d5⟩, _, hgl, hc1, hc2⟩ := HO.out.cell hg
      cases e1
      clear hg
      generalize l[j] = z at *
      unfold maxLen at hc2
      by_cases ha : z.a = a
      · have r1 : (z.a == a) = true := by simpa using ha
        by_cases hp : z.p = g
        · have r2 : (z.p == g) = true := by simpa using hp
          have HE : Hid (atI a g l = (j : Int)) := by
            unfold Hid atI
            rw [aix_at HA.out HG.out (by simp [hk, ha, hp])]
          clear ha hp
          go_wp2
          go_ret
          exact ⟨by rw [HE.out]; rfl, rfl⟩
        · have r2 : (z.p == g) = false := by simpa using hp
          have HZ : Hid (hk a g z = false) := by unfold Hid; simp [hk, hp]
          clear ha hp
          go_wp2_with fail
          go_roundw
          case rel => exact ⟨j + 1, by omega, by go_num, trivial, fun k y hk hy => by
            by_cases e : k = j
            · subst e
              rw [HG.out] at hy
              cases hy
              exact HZ.out
            · exact HA.out k y (by omega) hy⟩
          case measure => simp [intOf]; omega
      · have r1 : (z.a == a) = false := by simpa using ha
        have HZ : Hid (hk a g z = false) := by unfold Hid; simp [hk, ha]
        clear ha
        go_wp2_with fail
        go_roundw
        case rel => exact ⟨j + 1, by omega, by go_num, trivial, fun k y hk hy => by
            by_cases e : k = j
            · subst e
              rw [HG.out] at hy
              cases hy
              exact HZ.out
            · exact HA.out k y (by omega) hy⟩
        case measure => simp [intOf]; omega
    · obtain rfl : j = l.length := by omega
      have HE : Hid (atI a g l = -1) := by
        unfold Hid atI
        rw [aix_none (fun x hx => by
          obtain ⟨k, hk, e⟩ := List.getElem_of_mem hx
          exact HA.out k x hk (by rw [List.getElem?_eq_getElem hk, e]))]
      go_wp2
      go_ret
      exact ⟨by rw [HE.out]; rfl, rfl⟩
/-- All but the one at a place. -/
def wo (at' : Int) (l : List Tr) : List Tr := if at' < 0 then l else l.eraseIdx at'.toNat
theorem wo_is {l : List Tr} {j : Nat} {y : Tr} (h : l[j]? = some y) : wo (j : Int) (l.take (j + 1)) = wo (j : Int) (l.take j) := by
  have hj := (List.getElem?_eq_some_iff.1 h).1
  unfold wo
  rw [if_neg (by omega), if_neg (by omega), List.take_add_one, h]
  simp only [Int.toNat_natCast, Option.toList_some]
  rw [List.eraseIdx_append_of_length_le (by simp; omega), List.eraseIdx_of_length_le (l := l.take j) (by simp; omega)]
  have e : j - (l.take j).length = 0 := by simp; omega
  rw [e]
  simp
theorem wo_no {l : List Tr} {j : Nat} {y : Tr} {at' : Int} (h : l[j]? = some y) (hne : (j : Int) ≠ at') : wo at' (l.take (j + 1)) = wo at' (l.take j) ++ [y] := by
  have hj := (List.getElem?_eq_some_iff.1 h).1
  unfold wo
  rw [List.take_add_one, h]
  by_cases h0 : at' < 0
  · rw [if_pos h0, if_pos h0]
    rfl
  · rw [if_neg h0, if_neg h0]
    simp only [Option.toList_some]
    obtain ⟨k, rfl⟩ : ∃ k : Nat, at' = k := ⟨at'.toNat, by omega⟩
    simp only [Int.toNat_natCast]
    have hlen : (l.take j).length = j := by simp; omega
    by_cases h1 : k < j
    · rw [List.eraseIdx_append_of_lt_length (by omega)]
    · rw [List.eraseIdx_append_of_length_le (by omega), List.eraseIdx_of_length_le (l := l.take j) (by omega)]
      congr 1
      rw [List.eraseIdx_of_length_le]
      simp
      omega
theorem wo_len (at' : Int) (l : List Tr) : (wo at' l).length ≤ l.length := by
  unfold wo
  split
  · exact Nat.le_refl _
  · exact List.length_eraseIdx_le _ _
set_option maxHeartbeats 2000000 in
theorem Rwithout_any {B : Nat} {w : World} {v : Value} {l : List Tr} (ho : Own B w v l) (hl : l.length ≤ 1000) (at' : Int) :
    Calls Try.prog 37 #[v, .int .i64 at'] w fun e w' => ∃ v', e = .returned v' ∧ Own w.heap.size w' v' (wo at' l) ∧ Below w.heap.size w w' := by
  obtain ⟨i0, hi0, hz0, hz1, hz2⟩ := info_parts Try.infoT
  obtain ⟨ao, cap, hv⟩ := ho.len
  subst hv
  have HO : Hid (Own B w (.slice ao l.length cap) l) := ho
  clear ho
  go_enter Try.func37, Try.ntmps37
  go_wp2_with fail
  go_loopw [5, 6] (fun v i wr => ∃ j : Nat, j ≤ l.length ∧ i = .int .i64 j ∧ Own w.heap.size wr v (wo at' (l.take j)) ∧ Below w.heap.size w wr) (fun _ i _ => l.length - (intOf i).toNat)
  case atStart => exact ⟨0, by omega, rfl, by simpa [wo] using Own.nil _ _, Below.refl _ _⟩
  case round =>
    obtain ⟨j, hj, rfl, o, hb⟩ := hrel
    have HB : Hid (Below w.heap.size w wr) := hb
    have hsz := hb.size
    have HK : Hid (wr.ownsRow w.heap.size 32 6 u5 (wo at' (l.take j)).length (tv (wo at' (l.take j)))) := o
    have hA : (wo at' (l.take j)).length ≤ 1000 := Nat.le_trans (wo_len _ _) (by simp; omega)
    clear o
    by_cases hlt : j < l.length
    · have hg : l[j]? = some l[j] := List.getElem?_eq_getElem hlt
      have HG : Hid (l[j]? = some l[j]) := hg
      obtain ⟨gr, cap', e1, ⟨d0, d1, d2, d3, d4, d5⟩, _, hgl, hc1, hc2⟩ := (HO.out.below hb).cell hg
      cases e1
      clear hg hb
      generalize l[j] = z at *
      unfold maxLen at hc2
      by_cases ha : (j : Int) = at'
      · have q1 : ((j : Int) != at') = false := by simp [ha]
        have HK2 : Hid (Own w.heap.size wr u5 (wo at' (l.take (j + 1)))) := by
          unfold Hid
          rw [← ha, wo_is HG.out, ha]
          exact HK.out
        clear ha
        go_wp2_with fail
        go_roundw
        case rel => exact ⟨j + 1, by omega, by go_num, HK2.out, HB.out⟩
        case measure => simp [intOf]; omega
      · have q1 : ((j : Int) != at') = true := by simpa using ha
        have HN : Hid (∀ j u, (tc z)[j]? = some u → (wr.alloc (.cells #[.int .i64 z.a, .int .i64 z.p, .int .i64 z.f, .bool z.r, .bool z.w, .bool z.d] 32)).cell? ((⟨wr.heap.size, 0, none⟩ : Addr).add j) = some u) := box_cells wr z 32
        have HT : Hid (∀ v ∈ tc z, v.oneCell' = true) := tc_one z
        have HF : Hid (wo at' (l.take (j + 1)) = wo at' (l.take j) ++ [z]) := wo_no HG.out ha
        clear ha
        obtain ⟨A, hAA⟩ : ∃ A, wo at' (l.take j) = A := ⟨_, rfl⟩
        have HAA : Hid (wo at' (l.take j) = A) := hAA
        rw [hAA] at HK hA HF
        clear hAA
        go_wp2_with (at_builtin; refine wpList_append_own _ rfl (.tmp 16) (.tmp 21) 35 rfl w.heap.size 32 i0 _ 6 32 Try.underlying35 hi0 hz0 hz1 hz2 rfl (by decide) _ A.length _ rfl (World.ownsRow.alloc HK.out _) ⟨wr.heap.size, 0, none⟩ 1 1 (tc z) rfl rfl HN.out HT.out (by unfold maxLen; omega) (by omega) (by simp; omega) ?_; intro v3 w3 o3 gr3 nil3)
        go_roundw
        case rel =>
          refine ⟨j + 1, by omega, by go_num, ?_, (HB.out.alloc hsz _).grown gr3 (by simp; omega) (fun k hk => (HK.out.lt k hk).1)⟩
          rw [HF.out]
          unfold Own
          rw [tv_app, List.length_append, show tv [z] = tc z by simp [tv]]
          exact o3
        case measure => simp [intOf]; omega
    · obtain rfl : j = l.length := by omega
      clear hb
      have HK2 : Hid (Own w.heap.size wr u5 (wo at' l)) := by
        have := HK.out
        rw [List.take_of_length_le (Nat.le_refl _)] at this
        exact this
      go_wp2
      go_ret
      exact ⟨_, rfl, HK2.out, HB.out⟩
end Go.Proofs.Ytkgmdalekakgpaa
