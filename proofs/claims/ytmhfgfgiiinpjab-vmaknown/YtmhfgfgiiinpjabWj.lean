/- Protect, Pages of package vma: what they answer; no condition but those named. -/
import Derived.Test.YtmhfgfgiiinpjabWi
namespace Go.Proofs.Ytmhfgfgiiinpjab.V
open Go.ChangeShapes Go.WideShapes Go.ChangeAt Go.RowKit
set_option linter.unusedVariables false
set_option maxRecDepth 8192

set_option maxHeartbeats 2000000 in
theorem Protect_ok {w : World} {ao : Option Addr} {cap : Nat} {l : List Rg} (h : Ri w ao cap l) (s n m : Int) (hs : wfR ⟨s, n, m⟩) :
    Calls Try.prog 9 #[.slice ao l.length cap, .agg #[.int .i64 s, .int .i64 n], .int .u8 m] w (An w (prV l s n m)) := by
  have HC : Hid (∀ W, Below w.heap.size w W → Calls Try.prog 6 #[.slice ao l.length cap] W fun e w' => e = .returned (.int .i64 (chk l)) ∧ Below W.heap.size W w') := fun W hW => (h.below hW).check
  have HB : Hid (∀ o : Obj, Below w.heap.size w (w.alloc o)) := fun o => below1 w o
  have bad : ∀ c : Int, c = 2 ∨ c = 3 → chk l = c → Calls Try.prog 9 #[.slice ao l.length cap, .agg #[.int .i64 s, .int .i64 n], .int .u8 m] w (An w ([], c)) := fun c hc he => by
    rw [he] at HC
    clear h hs he
    rcases hc with rfl | rfl
    all_goals
      go_enter Try.func9, Try.ntmps9
      go_wp2_with fail
      refine (HC.out _ (HB.out _)).mono ?_
      rintro e w1 ⟨rfl, b1⟩
      have HB1 : Hid (Below w.heap.size w w1) := bs (HB.out _) b1
      clear b1
      go_wp2
      go_ret2
      exact An.no _ HB1.out
  rcases chk_cases l with he | he | he
  case inr.inl => rw [prV_chk he (by decide)]; exact bad 2 (Or.inl rfl) he
  case inr.inr => rw [prV_chk he (by decide)]; exact bad 3 (Or.inr rfl) he
  clear bad
  have hM : May l := chk_may.1 he
  rw [he] at HC
  have HV : Hid (prV l s n m = if ¬ (⟨s, n, m⟩ : Rg).Ok then ([], 2) else if tot (btw l s (s + n)) ≠ n then ([], 170) else ans (wth l s n [⟨s, n, m⟩])) := if_neg (fun q => q he)
  have HW : Hid (∀ W, Below w.heap.size w W → pgs s n → Calls Try.prog 17 #[.slice ao l.length cap, .agg #[.int .i64 s, .int .i64 n]] W fun e w' => ∃ a c, e = .returned (.slice a (btw l s (s + n)).length c) ∧ Rn w' a (btw l s (s + n)) ∧ Below W.heap.size W w') := fun W hW hp => within_ok (h.rn.below hW) hM.2.rs h.le hp
  have HN : Hid (∀ W a c, Rn W a (btw l s (s + n)) → Calls Try.prog 22 #[.slice a (btw l s (s + n)).length c] W fun e w' => e = .returned (.int .i64 (tot (btw l s (s + n)))) ∧ Below W.heap.size W w') := fun W a c hR => count_ok hR (btw_rs hM.2.rs)
  have HR : Hid (∀ W b, Below w.heap.size w W → Rn W (some ⟨b, 0, none⟩) [⟨s, n, m⟩] → (⟨s, n, m⟩ : Rg).Ok → Calls Try.prog 19 #[.slice ao l.length cap, .agg #[.int .i64 s, .int .i64 n], .slice (some ⟨b, 0, none⟩) 1 1] W (An W (ans (wth l s n [⟨s, n, m⟩])))) := fun W b hW hA ho =>
    replace_ok (h.rn.below hW) hM.2 hM.1 h.le ho.pg hA (Nat.le_refl _) ho (fun q hq => by rw [List.mem_singleton.1 hq]; exact ⟨Int.le_refl _, Int.le_refl _⟩) (Nat.le_refl _)
  have HK : Hid (∀ W, Calls Try.prog 20 #[.agg #[.int .i64 s, .int .i64 n]] W fun e w' => e = .returned (.bool (decide (pgs s n))) ∧ Below W.heap.size W w') := fun W => pagesMayBe_any s n hs.1 W
  have HM : Hid (∀ W, Calls Try.prog 21 #[.int .u8 m] W fun e w' => e = .returned (.bool (decide (prm m))) ∧ w' = W) := fun W => permMayBe_any m W
  have HT : Hid (pgs s n → tot (btw l s (s + n)) ≤ n) := fun hp => tot_le hM.2.rs hp.2.2.1
  clear h hM he hs
  generalize wth l s n [⟨s, n, m⟩] = res at *
  generalize btw l s (s + n) = be at *
  go_enter Try.func9, Try.ntmps9
  go_wp2_with fail
  refine (HC.out _ (HB.out _)).mono ?_
  rintro e w1 ⟨rfl, b1⟩
  have HB1 : Hid (Below w.heap.size w w1) := bs (HB.out _) b1
  have HX1 : Hid (∀ W, Below w1.heap.size w1 W → (W.cell? ⟨w.heap.size, 0, none⟩ = some (.int .i64 s) ∧ W.cell? ⟨w.heap.size, 1, none⟩ = some (.int .i64 n))) := fun W q => by
    have z (i) := cell_at w #[.int .i64 s, .int .i64 n] 34 (bs b1 q) i
    exact ⟨z 0, z 1⟩
  obtain ⟨z0, z1⟩ := HX1.out w1 (Below.refl _ _)
  clear b1
  go_wp2_with fail
  refine (HK.out _).mono ?_
  rintro e w2 ⟨rfl, b2⟩
  have HB2 : Hid (Below w.heap.size w w2) := bs HB1.out b2
  have HX2 : Hid (∀ W, Below w2.heap.size w2 W → (W.cell? ⟨w.heap.size, 0, none⟩ = some (.int .i64 s) ∧ W.cell? ⟨w.heap.size, 1, none⟩ = some (.int .i64 n))) := fun W q => HX1.out W (bs b2 q)
  clear b2 z0 z1 HX1
  by_cases hok : pgs s n
  case neg =>
    rw [decide_eq_false hok]
    have HA : Hid (prV l s n m = ([], 2)) := HV.out.trans (if_pos (fun q => hok q.pg))
    go_wp2
    go_ret2
    show An w (prV l s n m) _ _
    rw [HA.out]
    exact An.no _ HB2.out
  case pos =>
    rw [decide_eq_true hok]
    have HO : Hid (pgs s n) := hok
    obtain ⟨z0, z1⟩ := HX2.out w2 (Below.refl _ _)
    clear hok
    go_wp2_with fail
    refine (HM.out _).mono ?_
    rintro e w' ⟨rfl, rfl⟩
    by_cases hpm : prm m
    case neg =>
      rw [decide_eq_false hpm]
      have HA : Hid (prV l s n m = ([], 2)) := HV.out.trans (if_pos (fun q => hpm q.pm))
      go_wp2
      go_ret2
      show An w (prV l s n m) _ _
      rw [HA.out]
      exact An.no _ HB2.out
    case pos =>
      rw [decide_eq_true hpm]
      have HOk : Hid ((⟨s, n, m⟩ : Rg).Ok) := ⟨HO.out, hpm⟩
      have HV2 : Hid (prV l s n m = if tot be ≠ n then ([], 170) else ans res) := HV.out.trans (if_neg (fun q => q HOk.out))
      have HTl : Hid (tot be ≤ n) := HT.out HO.out
      clear hpm HV HT
      have hS2 := HX2.out w' (Below.refl _ _)
      clear z0 z1
      go_wp2_with fail
      go_region_held3 (fun W => W.cell? ⟨w.heap.size, 0, none⟩ = some (.int .i64 s) ∧ W.cell? ⟨w.heap.size, 1, none⟩ = some (.int .i64 n))
        (first | exact hS2 | (refine HX2.out _ ?_; (repeat (first | with_reducible exact Below.refl _ _ | with_reducible exact HQ.out | with_reducible exact HP.out | with_reducible refine Below.drew ?_))))
        (first
          | (go_at_call 17; refine (HW.out _ (bs HB2.out (by (repeat (first | with_reducible exact Below.refl _ _ | with_reducible refine Below.drew ?_)))) HO.out).mono ?_; rintro e w3 ⟨a3, c3, rfl, r3, b3⟩; have HP : Hid (Below w'.heap.size w' w3) := bs (by (repeat (first | with_reducible exact Below.refl _ _ | with_reducible refine Below.drew ?_))) b3; have HR3 : Hid (Rn w3 a3 be) := r3; clear r3 b3)
          | (go_at_call 22; refine (HN.out _ _ _ (by first | exact HR3.out | exact HR3.out.drew)).mono ?_; rintro e w4 ⟨rfl, b4⟩; have HQ : Hid (Below w'.heap.size w' w4) := bs (by first | exact HP.out | exact HP.out.drew) b4; clear b4))
      have HB4 : Hid (Below w.heap.size w w4) := bs HB2.out HQ.out
      have HX4 : Hid (∀ W, Below w4.heap.size w4 W → (W.cell? ⟨w.heap.size, 0, none⟩ = some (.int .i64 s) ∧ W.cell? ⟨w.heap.size, 1, none⟩ = some (.int .i64 n))) := fun W q => HX2.out W (bs HQ.out q)
      obtain ⟨z0, z1⟩ := HX4.out w4 (Below.refl _ _)
      clear HR3
      by_cases ht : tot be = n
      case neg =>
        have hlt : tot be < n := by have := HTl.out; omega
        have HA : Hid (prV l s n m = ([], 170)) := HV2.out.trans (if_pos ht)
        go_wp2
        go_ret2
        show An w (prV l s n m) _ _
        rw [HA.out]
        exact An.no _ HB4.out
      case pos =>
        have hlt : n ≤ tot be := by omega
        have HA : Hid (prV l s n m = ans res) := HV2.out.trans (if_neg (fun q => q ht))
        clear ht
        go_wp2_with fail
        refine (HR.out _ _ (bs HB4.out (by (repeat (first | with_reducible exact Below.refl _ _ | with_reducible refine Below.drew ?_ | with_reducible refine bal ?_ _)))) (by first | with_reducible exact lit1 _ s n m _ rfl | exact (lit1 _ s n m _ rfl).drew) HOk.out).mono ?_
        rintro e w6 ⟨v6, rfl, r6, b6⟩
        have H6 : Hid (Rw w6 w.heap.size v6 (ans res).1 ∧ Below w.heap.size w w6) := ⟨r6.mono (bs HB4.out (by (repeat (first | with_reducible exact Below.refl _ _ | with_reducible refine Below.drew ?_ | with_reducible refine bal ?_ _)))).size, bs (bs HB4.out (by (repeat (first | with_reducible exact Below.refl _ _ | with_reducible refine Below.drew ?_ | with_reducible refine bal ?_ _)))) b6⟩
        clear r6 b6
        go_wp2
        go_ret2
        show An w (prV l s n m) _ _
        rw [HA.out]
        exact ⟨v6, rfl, H6.out.1, H6.out.2⟩
end Go.Proofs.Ytmhfgfgiiinpjab.V
