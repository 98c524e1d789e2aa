/- The inner looks of package tlb: New, made, isSpace, isPage, isFrame, bare, seek. -/
import Derived.Test.YtkgmdalekakgpaaCc
import Derived.Deep.RegionHeld3
namespace Go.Proofs.Ytkgmdalekakgpaa
open Go.ChangeShapes Go.WideShapes Go.ChangeAt Go.RowKit
set_option linter.unusedVariables false

theorem New_no (n : Int) (h : n < 1 ∨ 64 < n) (w : World) :
    Calls Try.prog 8 #[.int .i64 n] w fun e w' => e = .returned (.tuple #[.pointer none, .int .i64 2]) ∧ w' = w := by
  rcases h with h | h
  · go_enter Try.func8, Try.ntmps8
    go_wp2
    all_goals (go_ret2; exact ⟨rfl, rfl⟩)
  · have h' : ¬ n < 1 := by omega
    go_enter Try.func8, Try.ntmps8
    go_wp2
    all_goals (go_ret2; exact ⟨rfl, rfl⟩)
theorem new_tlb {w w' : World} {n : Nat} {ty : TypeId} (h1 : 1 ≤ n) (hn : n ≤ 64) (e : w' = w.alloc (.cells #[.int .i64 n, .slice none 0 0] ty)) :
    ∃ F, Ca w' F w.heap.size n [] ∧ Kp (fun _ => False) F w w' := by
  have hp : Blk w' w.heap.size ty [.int .i64 n, .slice none 0 0] := by
    rw [e]
    exact blk_new w _ ty
  have G : w.grownBy w' none := by
    rw [e]
    exact World.grownBy_alloc _ _ none
  refine ⟨fun k => k = w.heap.size, ⟨.slice none 0 0, fun k hk => by subst hk; exact hp.lt, ⟨hp.lt, hp.cell 0, hp.cell 1, hp.frozen 1, Own.nil 0 w', fun h => (by cases h), by simp, List.Pairwise.nil, h1, hn⟩, rfl, fun g hg => by cases hg⟩, Kp.of_grown G (by simp) (fun k hk => Or.inr (by omega))⟩
theorem New_ok (n : Nat) (h1 : 1 ≤ n) (hn : n ≤ 64) (w : World) :
    Calls Try.prog 8 #[.int .i64 n] w fun e w' => ∃ p F, e = .returned (.tuple #[.pointer (some ⟨p, 0, none⟩), .int .i64 0]) ∧ Ca w' F p n [] ∧ Kp (fun _ => False) F w w' := by
  have HN : Hid (∀ w', w' = w.alloc (.cells #[.int .i64 n, .slice none 0 0] 61) → ∃ F, Ca w' F w.heap.size n [] ∧ Kp (fun _ => False) F w w') := fun w' e => new_tlb h1 hn e
  go_enter Try.func8, Try.ntmps8
  go_wp2
  go_ret2
  obtain ⟨F, hF⟩ := HN.out _ rfl
  exact ⟨w.heap.size, F, by simp, hF⟩
theorem made_any {w : World} {p n : Nat} {v : Value} {l : List Tr} (hM : Tb w p n v l) :
    Calls Try.prog 36 #[.pointer (some ⟨p, 0, none⟩)] w fun e w' => e = .returned (.bool true) ∧ w' = w := by
  have hc := hM.c0
  have h1 := hM.n1
  have h4 := hM.n64
  clear hM
  go_enter Try.func36, Try.ntmps36
  go_wp2
  go_ret
  exact ⟨ret_bool (by simp; omega), rfl⟩
theorem made_nil {w : World} {q : Option Addr} (hN : NoT w q) :
    Calls Try.prog 36 #[.pointer q] w fun e w' => e = .returned (.bool false) ∧ w' = w := by
  rcases hN with rfl | ⟨p, rfl, hc⟩
  · go_enter Try.func36, Try.ntmps36
    go_wp2
    go_ret
    exact ⟨rfl, rfl⟩
  · go_enter Try.func36, Try.ntmps36
    go_wp2
    go_ret
    exact ⟨rfl, rfl⟩
def okA (a : Int) : Bool := decide (0 ≤ a ∧ a < 128)
def okP (p : Int) : Bool := decide (0 ≤ p ∧ p < 1048576)
def okF (f : Int) : Bool := decide (0 ≤ f ∧ f < 4096)
theorem isSpace_any (a : Int) (w : World) : Calls Try.prog 42 #[.int .i64 a] w fun e w' => e = .returned (.bool (okA a)) ∧ w' = w := by
  by_cases h0 : 0 ≤ a
  · have HE : Hid (okA a = decide (a < 128)) := by unfold Hid; simp [okA, h0]
    rw [HE.out]
    clear HE
    go_enter Try.func42, Try.ntmps42
    go_wp2
    go_ret
    exact ⟨rfl, rfl⟩
  · have HE : Hid (okA a = false) := by unfold Hid; simp [okA, h0]
    rw [HE.out]
    clear HE
    go_enter Try.func42, Try.ntmps42
    go_wp2
    go_ret
    exact ⟨rfl, rfl⟩
theorem isPage_any (a : Int) (w : World) : Calls Try.prog 48 #[.int .i64 a] w fun e w' => e = .returned (.bool (okP a)) ∧ w' = w := by
  by_cases h0 : 0 ≤ a
  · have HE : Hid (okP a = decide (a < 1048576)) := by unfold Hid; simp [okP, h0]
    rw [HE.out]
    clear HE
    go_enter Try.func48, Try.ntmps48
    go_wp2
    go_ret
    exact ⟨rfl, rfl⟩
  · have HE : Hid (okP a = false) := by unfold Hid; simp [okP, h0]
    rw [HE.out]
    clear HE
    go_enter Try.func48, Try.ntmps48
    go_wp2
    go_ret
    exact ⟨rfl, rfl⟩
theorem isFrame_any (a : Int) (w : World) : Calls Try.prog 40 #[.int .i64 a] w fun e w' => e = .returned (.bool (okF a)) ∧ w' = w := by
  by_cases h0 : 0 ≤ a
  · have HE : Hid (okF a = decide (a < 4096)) := by unfold Hid; simp [okF, h0]
    rw [HE.out]
    clear HE
    go_enter Try.func40, Try.ntmps40
    go_wp2
    go_ret
    exact ⟨rfl, rfl⟩
  · have HE : Hid (okF a = false) := by unfold Hid; simp [okF, h0]
    rw [HE.out]
    clear HE
    go_enter Try.func40, Try.ntmps40
    go_wp2
    go_ret
    exact ⟨rfl, rfl⟩
def mk (a p : Int) : Tr := ⟨a, p, 0, false, false, false⟩
theorem bare_any (a p f : Int) (r w' d : Bool) (w : World) :
    Calls Try.prog 49 #[.agg #[.int .i64 a, .int .i64 p, .int .i64 f, .bool r, .bool w', .bool d]] w fun e w' => e = .returned (.agg #[.int .i64 a, .int .i64 p, .int .i64 0, .bool false, .bool false, .bool false]) ∧ Below w.heap.size w w' := by
  go_enter Try.func49, Try.ntmps49
  go_wp2
  exact bodyPost_ret (v := .agg #[.int .i64 a, .int .i64 p, .int .i64 0, .bool false, .bool false, .bool false]) (by simp [results, Try.results49, go_sem]) rfl ⟨rfl, ((below_new _ _).alloc (by simp) _)⟩
theorem seek_ok {w : World} {p n : Nat} {v : Value} {l : List Tr} (hM : Tb w p n v l) (a g : Int) (ha : okA a = true) (hg : okP g = true) {k : Nat} {x : Tr} (hx : Ix a g l k x) :
    Calls Try.prog 38 #[.pointer (some ⟨p, 0, none⟩), .int .i64 a, .int .i64 g] w fun e w' => e = .returned (.tuple #[.int .i64 k, .int .i64 0]) ∧ Below w.heap.size w w' := by
  have CM : Hid (Calls _ _ _ _ _) := made_any hM
  have CA : Hid (Calls _ _ _ _ _) := isSpace_any a w
  have CP : Hid (Calls _ _ _ _ _) := isPage_any g w
  rw [ha] at CA
  rw [hg] at CP
  have hc := hM.c1
  obtain ⟨ao, cap, hv⟩ := hM.own.len
  rw [hv] at hc
  have HM : Hid (Tb w p n v l) := hM
  have HV : Hid (v = .slice ao l.length cap) := hv
  have hl := hM.len
  have hn := hM.n64
  have hlt := hM.lt
  have HX : Hid (Ix a g l k x) := hx
  have hkl : k < l.length := (List.getElem?_eq_some_iff.1 hx.at').1
  clear hM hv ha hg hx
  go_enter Try.func38, Try.ntmps38
  go_wp2_with fail
  refine CM.out.mono ?_
  rintro e w' ⟨rfl, rfl⟩
  go_wp2_with fail
  refine CA.out.mono ?_
  rintro e w' ⟨rfl, rfl⟩
  go_wp2_with fail
  refine CP.out.mono ?_
  rintro e w' ⟨rfl, rfl⟩
  go_wp2_with fail
  have S1 : Hid (Six (w'.alloc (.cells #[.int .i64 a, .int .i64 g, .int .i64 0, .bool false, .bool false, .bool false] 32)) w'.heap.size 0 (mk a g)) := six_new w' (mk a g) 32
  have B1 : Hid (Below w'.heap.size w' (w'.alloc (.cells #[.int .i64 a, .int .i64 g, .int .i64 0, .bool false, .bool false, .bool false] 32))) := below_new _ _
  have hb1 : w'.heap.size < (w'.alloc (.cells #[.int .i64 a, .int .i64 g, .int .i64 0, .bool false, .bool false, .bool false] 32)).heap.size := by simp
  generalize w'.alloc (.cells #[.int .i64 a, .int .i64 g, .int .i64 0, .bool false, .bool false, .bool false] 32) = W1 at *
  have HM1 : Hid (Tb W1 p n v l) := HM.out.below B1.out
  clear hc CM CA CP
  generalize hbb : w'.heap.size = b at *
  go_loopw [30] (fun i wr => ∃ j : Nat, j ≤ k ∧ i = .int .i64 j ∧ Below W1.heap.size W1 wr) (fun i _ => l.length - (intOf i).toNat)
  case atStart => exact ⟨0, by omega, rfl, Below.refl _ _⟩
  case round =>
    obtain ⟨j, hj, rfl, hb⟩ := hrel
    have HB : Hid (Below W1.heap.size W1 wr) := hb
    have hsz := hb.size
    clear hb
    have hjl : j < l.length := by omega
    have hg : l[j]? = some l[j] := List.getElem?_eq_getElem hjl
    have HG : Hid (l[j]? = some l[j]) := hg
    obtain ⟨gr, cap', e1, h6, hfz, hgl, hc1, hc2⟩ := (HM1.out.own.below HB.out).cell hg
    rw [HV.out] at e1
    cases e1
    clear hg
    generalize l[j] = y at *
    obtain ⟨d0, d1, d2, d3, d4, d5⟩ := h6
    unfold maxLen at hc2
    go_wp2_with fail
    have X2 : Hid (Six (wr.alloc (.cells #[.int .i64 y.a, .int .i64 y.p, .int .i64 y.f, .bool y.r, .bool y.w, .bool y.d] 32)) wr.heap.size 0 y) := six_new wr y 32
    have B2 : Hid (Below W1.heap.size W1 (wr.alloc (.cells #[.int .i64 y.a, .int .i64 y.p, .int .i64 y.f, .bool y.r, .bool y.w, .bool y.d] 32))) := HB.out.alloc hsz _
    have hb2 : wr.heap.size < (wr.alloc (.cells #[.int .i64 y.a, .int .i64 y.p, .int .i64 y.f, .bool y.r, .bool y.w, .bool y.d] 32)).heap.size := by simp
    generalize wr.alloc (.cells #[.int .i64 y.a, .int .i64 y.p, .int .i64 y.f, .bool y.r, .bool y.w, .bool y.d] 32) = W2 at *
    generalize wr.heap.size = b2 at *
    have K0 : Hid ((W2.drew.cell? ⟨b, 0, none⟩ = some (.int .i64 a) ∧ W2.drew.cell? ⟨b, 1, none⟩ = some (.int .i64 g) ∧ W2.drew.cell? ⟨b, 2, none⟩ = some (.int .i64 0) ∧ W2.drew.cell? ⟨b, 3, none⟩ = some (.bool false) ∧ W2.drew.cell? ⟨b, 4, none⟩ = some (.bool false) ∧ W2.drew.cell? ⟨b, 5, none⟩ = some (.bool false)) ∧ Sx W2.drew b2 y) := ⟨((S1.out.below hb1 B2.out).below (Nat.lt_of_lt_of_le hb1 B2.out.size) (below_drew _ _)).sx, (X2.out.below hb2 (below_drew _ _)).sx⟩
    clear d0 d1 d2 d3 d4 d5 hfz
    have hq := eq_run y.a y.p 0 a g 0 false false false false false false
    rw [show eqT ⟨y.a, y.p, 0, false, false, false⟩ ⟨a, g, 0, false, false, false⟩ = hk a g y by simp [eqT, hk]] at hq
    obtain ⟨bb, hbb⟩ : ∃ bb, hk a g y = bb := ⟨_, rfl⟩
    have HBB : Hid (hk a g y = bb) := hbb
    rw [hbb] at hq
    clear hbb
    go_region_held3 (fun W => (W.cell? ⟨b, 0, none⟩ = some (.int .i64 a) ∧ W.cell? ⟨b, 1, none⟩ = some (.int .i64 g) ∧ W.cell? ⟨b, 2, none⟩ = some (.int .i64 0) ∧ W.cell? ⟨b, 3, none⟩ = some (.bool false) ∧ W.cell? ⟨b, 4, none⟩ = some (.bool false) ∧ W.cell? ⟨b, 5, none⟩ = some (.bool false)) ∧ W.cell? ⟨b2, 0, none⟩ = some (.int .i64 y.a) ∧ W.cell? ⟨b2, 1, none⟩ = some (.int .i64 y.p) ∧ W.cell? ⟨b2, 2, none⟩ = some (.int .i64 y.f) ∧ W.cell? ⟨b2, 3, none⟩ = some (.bool y.r) ∧ W.cell? ⟨b2, 4, none⟩ = some (.bool y.w) ∧ W.cell? ⟨b2, 5, none⟩ = some (.bool y.d))
      (first | exact K1.out | exact K0.out)
      (first | (go_at_call 49; refine (bare_any _ _ _ _ _ _ _).mono ?_; rintro e w3 ⟨rfl, hb3⟩; have K1 : Hid (_ ∧ _) := ⟨((S1.out.below hb1 B2.out).below (Nat.lt_of_lt_of_le hb1 B2.out.size) ((below_drew W2 W2.heap.size).trans hb3)).sx, (X2.out.below hb2 ((below_drew W2 W2.heap.size).trans hb3)).sx⟩; have B3 : Hid (Below W1.heap.size W1 w3) := B2.out.trans (((below_drew W2 W2.heap.size).trans hb3).mono B2.out.size)))
    clear hq K1 K0
    cases bb with
    | true =>
      obtain rfl : j = k := by
        by_cases q : j < k
        · have := HX.out.ahead j y q HG.out
          rw [HBB.out] at this
          cases this
        · omega
      go_wp2
      go_ret2
      subst hbb
      exact ⟨rfl, B1.out.trans (B3.out.mono (by omega))⟩
    | false =>
      have hne : j < k := by
        by_cases q : j = k
        · subst q
          have e1 := HX.out.at'
          rw [HG.out] at e1
          injection e1 with e1
          have := HX.out.is
          rw [← e1, HBB.out] at this
          cases this
        · omega
      go_wp2_with fail
      go_roundw
      case rel => exact ⟨j + 1, by omega, by go_num, B3.out⟩
      case measure => simp [intOf]; omega
theorem seek_none {w : World} {p n : Nat} {v : Value} {l : List Tr} (hM : Tb w p n v l) (a g : Int) (ha : okA a = true) (hg : okP g = true) (hx : ∀ x ∈ l, hk a g x = false) :
    Calls Try.prog 38 #[.pointer (some ⟨p, 0, none⟩), .int .i64 a, .int .i64 g] w fun e w' => e = .returned (.tuple #[.int .i64 (-1), .int .i64 0]) ∧ Below w.heap.size w w' := by
  have CM : Hid (Calls _ _ _ _ _) := made_any hM
  have CA : Hid (Calls _ _ _ _ _) := isSpace_any a w
  have CP : Hid (Calls _ _ _ _ _) := isPage_any g w
  rw [ha] at CA
  rw [hg] at CP
  have hc := hM.c1
  obtain ⟨ao, cap, hv⟩ := hM.own.len
  rw [hv] at hc
  have HM : Hid (Tb w p n v l) := hM
  have HV : Hid (v = .slice ao l.length cap) := hv
  have hl := hM.len
  have hn := hM.n64
  have hlt := hM.lt
  have HX : Hid (∀ x ∈ l, hk a g x = false) := hx
  clear hM hv ha hg hx
  go_enter Try.func38, Try.ntmps38
  go_wp2_with fail
  refine CM.out.mono ?_
  rintro e w' ⟨rfl, rfl⟩
  go_wp2_with fail
  refine CA.out.mono ?_
  rintro e w' ⟨rfl, rfl⟩
  go_wp2_with fail
  refine CP.out.mono ?_
  rintro e w' ⟨rfl, rfl⟩
  go_wp2_with fail
  have S1 : Hid (Six (w'.alloc (.cells #[.int .i64 a, .int .i64 g, .int .i64 0, .bool false, .bool false, .bool false] 32)) w'.heap.size 0 (mk a g)) := six_new w' (mk a g) 32
  have B1 : Hid (Below w'.heap.size w' (w'.alloc (.cells #[.int .i64 a, .int .i64 g, .int .i64 0, .bool false, .bool false, .bool false] 32))) := below_new _ _
  have hb1 : w'.heap.size < (w'.alloc (.cells #[.int .i64 a, .int .i64 g, .int .i64 0, .bool false, .bool false, .bool false] 32)).heap.size := by simp
  generalize w'.alloc (.cells #[.int .i64 a, .int .i64 g, .int .i64 0, .bool false, .bool false, .bool false] 32) = W1 at *
  have HM1 : Hid (Tb W1 p n v l) := HM.out.below B1.out
  clear hc CM CA CP
  generalize hbb : w'.heap.size = b at *
  go_loopw [30] (fun i wr => ∃ j : Nat, j ≤ l.length ∧ i = .int .i64 j ∧ Below W1.heap.size W1 wr) (fun i _ => l.length - (intOf i).toNat)
  case atStart => exact ⟨0, by omega, rfl, Below.refl _ _⟩
  case round =>
    obtain ⟨j, hj, rfl, hb⟩ := hrel
    have HB : Hid (Below W1.heap.size W1 wr) := hb
    have hsz := hb.size
    clear hb
    by_cases hjl : j < l.length
    · have hg : l[j]? = some l[j] := List.getElem?_eq_getElem hjl
      have HG : Hid (l[j]? = some l[j]) := hg
      obtain ⟨gr, cap', e1, h6, hfz, hgl, hc1, hc2⟩ := (HM1.out.own.below HB.out).cell hg
      rw [HV.out] at e1
      cases e1
      clear hg
      generalize l[j] = y at *
      obtain ⟨d0, d1, d2, d3, d4, d5⟩ := h6
      unfold maxLen at hc2
      go_wp2_with fail
      have X2 : Hid (Six (wr.alloc (.cells #[.int .i64 y.a, .int .i64 y.p, .int .i64 y.f, .bool y.r, .bool y.w, .bool y.d] 32)) wr.heap.size 0 y) := six_new wr y 32
      have B2 : Hid (Below W1.heap.size W1 (wr.alloc (.cells #[.int .i64 y.a, .int .i64 y.p, .int .i64 y.f, .bool y.r, .bool y.w, .bool y.d] 32))) := HB.out.alloc hsz _
      have hb2 : wr.heap.size < (wr.alloc (.cells #[.int .i64 y.a, .int .i64 y.p, .int .i64 y.f, .bool y.r, .bool y.w, .bool y.d] 32)).heap.size := by simp
      generalize wr.alloc (.cells #[.int .i64 y.a, .int .i64 y.p, .int .i64 y.f, .bool y.r, .bool y.w, .bool y.d] 32) = W2 at *
      generalize wr.heap.size = b2 at *
      have K0 : Hid ((W2.drew.cell? ⟨b, 0, none⟩ = some (.int .i64 a) ∧ W2.drew.cell? ⟨b, 1, none⟩ = some (.int .i64 g) ∧ W2.drew.cell? ⟨b, 2, none⟩ = some (.int .i64 0) ∧ W2.drew.cell? ⟨b, 3, none⟩ = some (.bool false) ∧ W2.drew.cell? ⟨b, 4, none⟩ = some (.bool false) ∧ W2.drew.cell? ⟨b, 5, none⟩ = some (.bool false)) ∧ Sx W2.drew b2 y) := ⟨((S1.out.below hb1 B2.out).below (Nat.lt_of_lt_of_le hb1 B2.out.size) (below_drew _ _)).sx, (X2.out.below hb2 (below_drew _ _)).sx⟩
      clear d0 d1 d2 d3 d4 d5 hfz
      have hq := eq_run y.a y.p 0 a g 0 false false false false false false
      rw [show eqT ⟨y.a, y.p, 0, false, false, false⟩ ⟨a, g, 0, false, false, false⟩ = hk a g y by simp [eqT, hk]] at hq
      rw [HX.out y (List.mem_of_getElem? HG.out)] at hq
      go_region_held3 (fun W => (W.cell? ⟨b, 0, none⟩ = some (.int .i64 a) ∧ W.cell? ⟨b, 1, none⟩ = some (.int .i64 g) ∧ W.cell? ⟨b, 2, none⟩ = some (.int .i64 0) ∧ W.cell? ⟨b, 3, none⟩ = some (.bool false) ∧ W.cell? ⟨b, 4, none⟩ = some (.bool false) ∧ W.cell? ⟨b, 5, none⟩ = some (.bool false)) ∧ W.cell? ⟨b2, 0, none⟩ = some (.int .i64 y.a) ∧ W.cell? ⟨b2, 1, none⟩ = some (.int .i64 y.p) ∧ W.cell? ⟨b2, 2, none⟩ = some (.int .i64 y.f) ∧ W.cell? ⟨b2, 3, none⟩ = some (.bool y.r) ∧ W.cell? ⟨b2, 4, none⟩ = some (.bool y.w) ∧ W.cell? ⟨b2, 5, none⟩ = some (.bool y.d))
        (first | exact K1.out | exact K0.out)
        (first | (go_at_call 49; refine (bare_any _ _ _ _ _ _ _).mono ?_; rintro e w3 ⟨rfl, hb3⟩; have K1 : Hid (_ ∧ _) := ⟨((S1.out.below hb1 B2.out).below (Nat.lt_of_lt_of_le hb1 B2.out.size) ((below_drew W2 W2.heap.size).trans hb3)).sx, (X2.out.below hb2 ((below_drew W2 W2.heap.size).trans hb3)).sx⟩; have B3 : Hid (Below W1.heap.size W1 w3) := B2.out.trans (((below_drew W2 W2.heap.size).trans hb3).mono B2.out.size)))
      clear hq K1 K0
      go_wp2_with fail
      go_roundw
      case rel => exact ⟨j + 1, by omega, by go_num, B3.out⟩
      case measure => simp [intOf]; omega
    · obtain rfl : j = l.length := by omega
      go_wp2
      go_ret2
      subst hbb
      exact ⟨rfl, B1.out.trans (HB.out.mono (by omega))⟩
theorem seek_bad {w : World} {p n : Nat} {v : Value} {l : List Tr} (hM : Tb w p n v l) (a g : Int) (hb : okA a = false ∨ okP g = false) :
    Calls Try.prog 38 #[.pointer (some ⟨p, 0, none⟩), .int .i64 a, .int .i64 g] w fun e w' => e = .returned (.tuple #[.int .i64 (-1), .int .i64 2]) ∧ w' = w := by
  have CM : Hid (Calls _ _ _ _ _) := made_any hM
  have CA : Hid (Calls _ _ _ _ _) := isSpace_any a w
  have CP : Hid (Calls _ _ _ _ _) := isPage_any g w
  clear hM
  cases ha : okA a with
  | false =>
    rw [ha] at CA
    clear ha hb
    go_enter Try.func38, Try.ntmps38
    go_wp2_with fail
    refine CM.out.mono ?_
    rintro e w' ⟨rfl, rfl⟩
    go_wp2_with fail
    refine CA.out.mono ?_
    rintro e w' ⟨rfl, rfl⟩
    go_wp2
    go_ret2
    exact ⟨rfl, rfl⟩
  | true =>
    have hg : okP g = false := by
      rcases hb with q | q
      · rw [ha] at q; cases q
      · exact q
    rw [ha] at CA
    rw [hg] at CP
    clear ha hb hg
    go_enter Try.func38, Try.ntmps38
    go_wp2_with fail
    refine CM.out.mono ?_
    rintro e w' ⟨rfl, rfl⟩
    go_wp2_with fail
    refine CA.out.mono ?_
    rintro e w' ⟨rfl, rfl⟩
    go_wp2_with fail
    refine CP.out.mono ?_
    rintro e w' ⟨rfl, rfl⟩
    go_wp2
    go_ret2
    exact ⟨rfl, rfl⟩
theorem seek_nil {w : World} {q : Option Addr} (hN : NoT w q) (a g : Int) :
    Calls Try.prog 38 #[.pointer q, .int .i64 a, .int .i64 g] w fun e w' => e = .returned (.tuple #[.int .i64 (-1), .int .i64 1]) ∧ w' = w := by
  have CM : Hid (Calls _ _ _ _ _) := made_nil hN
  clear hN
  go_enter Try.func38, Try.ntmps38
  go_wp2_with fail
  refine CM.out.mono ?_
  rintro e w' ⟨rfl, rfl⟩
  go_wp2
  go_ret2
  exact ⟨rfl, rfl⟩
end Go.Proofs.Ytkgmdalekakgpaa
