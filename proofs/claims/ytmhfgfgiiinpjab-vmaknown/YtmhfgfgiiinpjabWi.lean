/- Put, Cut, Protect of package vma: what they answer; no condition but those named. -/
import Derived.Test.YtmhfgfgiiinpjabWh
namespace Go.Proofs.Ytmhfgfgiiinpjab.V
open Go.ChangeShapes Go.WideShapes Go.ChangeAt Go.RowKit
set_option linter.unusedVariables false
set_option maxRecDepth 8192

/-- A list that is handed in. -/
structure Ri (w : World) (ao : Option Addr) (cap : Nat) (l : List Rg) : Prop where
  rn : Rn w ao l
  le : l.length ≤ cap
  wf : ∀ r ∈ l, wfR r
theorem Ri.below {w w' : World} {ao : Option Addr} {cap : Nat} {l : List Rg} (h : Ri w ao cap l) (k : Below w.heap.size w w') : Ri w' ao cap l := ⟨h.rn.below k, h.le, h.wf⟩
theorem Ri.check {w : World} {ao : Option Addr} {cap : Nat} {l : List Rg} (h : Ri w ao cap l) : Calls Try.prog 6 #[.slice ao l.length cap] w fun e w' => e = .returned (.int .i64 (chk l)) ∧ Below w.heap.size w w' := Check_ok h.rn h.wf
theorem chk_cases (l : List Rg) : chk l = 0 ∨ chk l = 2 ∨ chk l = 3 := by
  unfold chk
  split
  · exact Or.inr (Or.inr rfl)
  · split
    · exact Or.inl rfl
    · exact Or.inr (Or.inl rfl)
theorem puV_chk {l : List Rg} {r : Rg} {c : Int} (h : chk l = c) (hc : c ≠ 0) : puV l r = ([], c) := by subst h; exact if_pos hc
theorem cuV_chk {l : List Rg} {s n : Int} {c : Int} (h : chk l = c) (hc : c ≠ 0) : cuV l s n = ([], c) := by subst h; exact if_pos hc
theorem prV_chk {l : List Rg} {s n m : Int} {c : Int} (h : chk l = c) (hc : c ≠ 0) : prV l s n m = ([], c) := by subst h; exact if_pos hc
set_option maxHeartbeats 2000000 in
theorem Put_ok {w : World} {ao : Option Addr} {cap : Nat} {l : List Rg} (h : Ri w ao cap l) (r : Rg) (hr : wfR r) :
    Calls Try.prog 7 #[.slice ao l.length cap, .agg #[.int .i64 r.p, .int .i64 r.n, .int .u8 r.m]] w (An w (puV l r)) := by
  have HC : Hid (∀ W, Below w.heap.size w W → Calls Try.prog 6 #[.slice ao l.length cap] W fun e w' => e = .returned (.int .i64 (chk l)) ∧ Below W.heap.size W w') := fun W hW => (h.below hW).check
  have HB : Hid (∀ o : Obj, Below w.heap.size w (w.alloc o)) := fun o => below1 w o
  have bad : ∀ c : Int, c = 2 ∨ c = 3 → chk l = c → Calls Try.prog 7 #[.slice ao l.length cap, .agg #[.int .i64 r.p, .int .i64 r.n, .int .u8 r.m]] w (An w ([], c)) := fun c hc he => by
    rw [he] at HC
    clear h hr he
    rcases hc with rfl | rfl
    all_goals
      go_enter Try.func7, Try.ntmps7
      go_wp2_with fail
      refine (HC.out _ (HB.out _)).mono ?_
      rintro e w1 ⟨rfl, b1⟩
      have HB1 : Hid (Below w.heap.size w w1) := bs (HB.out _) b1
      clear b1
      go_wp2
      go_ret2
      exact An.no _ HB1.out
  rcases chk_cases l with he | he | he
  case inr.inl => rw [puV_chk he (by decide)]; exact bad 2 (Or.inl rfl) he
  case inr.inr => rw [puV_chk he (by decide)]; exact bad 3 (Or.inr rfl) he
  clear bad
  have hM : May l := chk_may.1 he
  rw [he] at HC
  have HV : Hid (puV l r = if ¬ r.Ok then ([], 2) else if btw l r.p r.e ≠ [] then ([], 171) else ans (wth l r.p r.n [r])) := if_neg (fun q => q he)
  have hee : r.e = r.p + r.n := rfl
  rw [hee] at HV
  have HW : Hid (∀ W, Below w.heap.size w W → pgs r.p r.n → Calls Try.prog 17 #[.slice ao l.length cap, .agg #[.int .i64 r.p, .int .i64 r.n]] W fun e w' => ∃ a c, e = .returned (.slice a (btw l r.p (r.p + r.n)).length c) ∧ Rn w' a (btw l r.p (r.p + r.n)) ∧ Below W.heap.size W w') := fun W hW hp => within_ok (h.rn.below hW) hM.2.rs h.le hp
  have HR : Hid (∀ W b, Below w.heap.size w W → Rn W (some ⟨b, 0, none⟩) [r] → r.Ok → Calls Try.prog 19 #[.slice ao l.length cap, .agg #[.int .i64 r.p, .int .i64 r.n], .slice (some ⟨b, 0, none⟩) 1 1] W (An W (ans (wth l r.p r.n [r])))) := fun W b hW hA ho =>
    replace_ok (h.rn.below hW) hM.2 hM.1 h.le ho.pg hA (Nat.le_refl _) ho (fun q hq => by rw [List.mem_singleton.1 hq]; exact ⟨Int.le_refl _, Int.le_refl _⟩) (Nat.le_refl _)
  have HK : Hid (∀ W, Calls Try.prog 14 #[.agg #[.int .i64 r.p, .int .i64 r.n, .int .u8 r.m]] W fun e w' => e = .returned (.bool (decide (r.Ok))) ∧ Below W.heap.size W w') := fun W => regionMayBe_any r.p r.n r.m hr W
  clear h hM he hr hee
  generalize wth l r.p r.n [r] = res at *
  generalize btw l r.p (r.p + r.n) = be at *
  obtain ⟨p, n, m⟩ := r
  simp only at HV HW HR HK ⊢
  go_enter Try.func7, Try.ntmps7
  go_wp2_with fail
  refine (HC.out _ (HB.out _)).mono ?_
  rintro e w1 ⟨rfl, b1⟩
  have HB1 : Hid (Below w.heap.size w w1) := bs (HB.out _) b1
  have HX1 : Hid (∀ W, Below w1.heap.size w1 W → (W.cell? ⟨w.heap.size, 0, none⟩ = some (.int .i64 p) ∧ W.cell? ⟨w.heap.size, 1, none⟩ = some (.int .i64 n) ∧ W.cell? ⟨w.heap.size, 2, none⟩ = some (.int .u8 m))) := fun W q => by
    have z (i) := cell_at w #[.int .i64 p, .int .i64 n, .int .u8 m] 26 (bs b1 q) i
    exact ⟨z 0, z 1, z 2⟩
  obtain ⟨z0, z1, z2⟩ := HX1.out w1 (Below.refl _ _)
  clear b1
  go_wp2_with fail
  refine (HK.out _).mono ?_
  rintro e w2 ⟨rfl, b2⟩
  have HB2 : Hid (Below w.heap.size w w2) := bs HB1.out b2
  have HX2 : Hid (∀ W, Below w2.heap.size w2 W → (W.cell? ⟨w.heap.size, 0, none⟩ = some (.int .i64 p) ∧ W.cell? ⟨w.heap.size, 1, none⟩ = some (.int .i64 n) ∧ W.cell? ⟨w.heap.size, 2, none⟩ = some (.int .u8 m))) := fun W q => HX1.out W (bs b2 q)
  clear b2 z0 z1 z2 HX1
  by_cases hok : (⟨p, n, m⟩ : Rg).Ok
  case neg =>
    rw [decide_eq_false hok]
    have HA : Hid (puV l ⟨p, n, m⟩ = ([], 2)) := HV.out.trans (if_pos hok)
    go_wp2
    go_ret2
    show An w (puV l ⟨p, n, m⟩) _ _
    rw [HA.out]
    exact An.no _ HB2.out
  case pos =>
    rw [decide_eq_true hok]
    have HO : Hid ((⟨p, n, m⟩ : Rg).Ok) := hok
    have HV2 : Hid (puV l ⟨p, n, m⟩ = if be ≠ [] then ([], 171) else ans res) := HV.out.trans (if_neg (fun q => q hok))
    clear hok HV
    obtain ⟨z0, z1, z2⟩ := HX2.out w2 (Below.refl _ _)
    go_wp2_with fail
    refine (pages_any p n m _).mono ?_
    rintro e w3 ⟨rfl, b3⟩
    have HB3 : Hid (Below w.heap.size w w3) := bs HB2.out b3
    have HX3 : Hid (∀ W, Below w3.heap.size w3 W → (W.cell? ⟨w.heap.size, 0, none⟩ = some (.int .i64 p) ∧ W.cell? ⟨w.heap.size, 1, none⟩ = some (.int .i64 n) ∧ W.cell? ⟨w.heap.size, 2, none⟩ = some (.int .u8 m))) := fun W q => HX2.out W (bs b3 q)
    clear b3 z0 z1 z2 HX2
    go_wp2_with fail
    refine (HW.out w3 HB3.out HO.out.pg).mono ?_
    rintro e w4 ⟨a4, c4, rfl, _, b4⟩
    have HB4 : Hid (Below w.heap.size w w4) := bs HB3.out b4
    have HX4 : Hid (∀ W, Below w4.heap.size w4 W → (W.cell? ⟨w.heap.size, 0, none⟩ = some (.int .i64 p) ∧ W.cell? ⟨w.heap.size, 1, none⟩ = some (.int .i64 n) ∧ W.cell? ⟨w.heap.size, 2, none⟩ = some (.int .u8 m))) := fun W q => HX3.out W (bs b4 q)
    clear b4 HX3
    cases be with
    | cons x y =>
      have HA : Hid (puV l ⟨p, n, m⟩ = ([], 171)) := HV2.out.trans (if_pos (by simp))
      go_wp2
      go_ret2
      show An w (puV l ⟨p, n, m⟩) _ _
      rw [HA.out]
      exact An.no _ HB4.out
    | nil =>
      have HA : Hid (puV l ⟨p, n, m⟩ = ans res) := HV2.out.trans (if_neg (fun q => q rfl))
      have hS4 := HX4.out w4 (Below.refl _ _)
      have HC4 : Hid (∀ W, Below w.heap.size w W → Below w4.heap.size w4 W → W.cell? ⟨w.heap.size, 0, none⟩ = some (.int .i64 p) ∧ W.cell? ⟨w.heap.size, 1, none⟩ = some (.int .i64 n) ∧ W.cell? ⟨w.heap.size, 2, none⟩ = some (.int .u8 m)) := fun W _ q => HX4.out W q
      go_wp2_with fail
      go_region_held3 (fun W => W.cell? ⟨w.heap.size, 0, none⟩ = some (.int .i64 p) ∧ W.cell? ⟨w.heap.size, 1, none⟩ = some (.int .i64 n) ∧ W.cell? ⟨w.heap.size, 2, none⟩ = some (.int .u8 m))
        (first | exact hS4 | (refine HX4.out _ ?_; (repeat (first | with_reducible exact Below.refl _ _ | with_reducible exact HQ6.out | with_reducible exact HP.out | with_reducible refine Below.drew ?_ | with_reducible refine bal ?_ _))))
        (first
          | (go_at_call 18; refine (pages_any p n m _).mono ?_; rintro e w5 ⟨rfl, b5⟩; have HP : Hid (Below w4.heap.size w4 w5) := bs (by (repeat (first | with_reducible exact Below.refl _ _ | with_reducible refine Below.drew ?_ | with_reducible refine bal ?_ _))) b5; (try (have HL : Hid (Rn w5 (some ⟨w4.heap.size, 0, none⟩) [⟨p, n, m⟩]) := Rn.below (by first | with_reducible exact lit1 w4 p n m _ rfl | exact (lit1 w4 p n m _ rfl).drew) b5)); clear b5)
          | (go_at_call 19; refine (HR.out _ _ (bs HB4.out (by (repeat (first | with_reducible exact Below.refl _ _ | with_reducible exact HP.out | with_reducible refine Below.drew ?_ | with_reducible refine bal ?_ _)))) (by first | with_reducible exact HL.out | with_reducible exact lit1 _ p n m _ rfl | exact (lit1 _ p n m _ rfl).drew) HO.out).mono ?_; rintro e w6 ⟨v6, rfl, r6, b6⟩; have H6 : Hid (Rw w6 w.heap.size v6 (ans res).1 ∧ Below w.heap.size w w6) := ⟨r6.mono (bs HB4.out (by (repeat (first | with_reducible exact Below.refl _ _ | with_reducible exact HP.out | with_reducible refine Below.drew ?_ | with_reducible refine bal ?_ _)))).size, bs (bs HB4.out (by (repeat (first | with_reducible exact Below.refl _ _ | with_reducible exact HP.out | with_reducible refine Below.drew ?_ | with_reducible refine bal ?_ _)))) b6⟩; have HQ6 : Hid (Below w4.heap.size w4 w6) := bs (by (repeat (first | with_reducible exact Below.refl _ _ | with_reducible exact HP.out | with_reducible refine Below.drew ?_ | with_reducible refine bal ?_ _))) b6; clear r6 b6))
      all_goals go_wp2
      all_goals go_ret2
      all_goals (show An w (puV l ⟨p, n, m⟩) _ _)
      all_goals (rw [HA.out])
      all_goals exact ⟨v6, rfl, H6.out.1, H6.out.2⟩
set_option maxHeartbeats 2000000 in
theorem Cut_ok {w : World} {ao : Option Addr} {cap : Nat} {l : List Rg} (h : Ri w ao cap l) (s n : Int) (hs : -9223372036854775808 ≤ s ∧ s < 9223372036854775808) :
    Calls Try.prog 8 #[.slice ao l.length cap, .agg #[.int .i64 s, .int .i64 n]] w (An w (cuV l s n)) := by
  have HC : Hid (∀ W, Below w.heap.size w W → Calls Try.prog 6 #[.slice ao l.length cap] W fun e w' => e = .returned (.int .i64 (chk l)) ∧ Below W.heap.size W w') := fun W hW => (h.below hW).check
  have HB : Hid (∀ o : Obj, Below w.heap.size w (w.alloc o)) := fun o => below1 w o
  have bad : ∀ c : Int, c = 2 ∨ c = 3 → chk l = c → Calls Try.prog 8 #[.slice ao l.length cap, .agg #[.int .i64 s, .int .i64 n]] w (An w ([], c)) := fun c hc he => by
    rw [he] at HC
    clear h hs he
    rcases hc with rfl | rfl
    all_goals
      go_enter Try.func8, Try.ntmps8
      go_wp2_with fail
      refine (HC.out _ (HB.out _)).mono ?_
      rintro e w1 ⟨rfl, b1⟩
      have HB1 : Hid (Below w.heap.size w w1) := bs (HB.out _) b1
      clear b1
      go_wp2
      go_ret2
      exact An.no _ HB1.out
  rcases chk_cases l with he | he | he
  case inr.inl => rw [cuV_chk he (by decide)]; exact bad 2 (Or.inl rfl) he
  case inr.inr => rw [cuV_chk he (by decide)]; exact bad 3 (Or.inr rfl) he
  clear bad
  have hM : May l := chk_may.1 he
  rw [he] at HC
  have HV : Hid (cuV l s n = if ¬ pgs s n then ([], 2) else ans (wth l s n [])) := if_neg (fun q => q he)
  have HR : Hid (∀ W, Below w.heap.size w W → pgs s n → Calls Try.prog 19 #[.slice ao l.length cap, .agg #[.int .i64 s, .int .i64 n], .slice none 0 0] W (An W (ans (wth l s n [])))) := fun W hW ho =>
    replace_ok (ins := []) (h.rn.below hW) hM.2 hM.1 h.le ho (Rn.nil _ _) (Nat.le_refl _) trivial (fun q hq => absurd hq List.not_mem_nil) (by decide)
  have HK : Hid (∀ W, Calls Try.prog 20 #[.agg #[.int .i64 s, .int .i64 n]] W fun e w' => e = .returned (.bool (decide (pgs s n))) ∧ Below W.heap.size W w') := fun W => pagesMayBe_any s n hs W
  clear h hM he hs
  generalize wth l s n [] = res at *
  go_enter Try.func8, Try.ntmps8
  go_wp2_with fail
  refine (HC.out _ (HB.out _)).mono ?_
  rintro e w1 ⟨rfl, b1⟩
  have HB1 : Hid (Below w.heap.size w w1) := bs (HB.out _) b1
  have HX1 : Hid (∀ W, Below w1.heap.size w1 W → (W.cell? ⟨w.heap.size, 0, none⟩ = some (.int .i64 s) ∧ W.cell? ⟨w.heap.size, 1, none⟩ = some (.int .i64 n))) := fun W q => by
    have z (i) := cell_at w #[.int .i64 s, .int .i64 n] 34 (bs b1 q) i
    exact ⟨z 0, z 1⟩
  obtain ⟨z0, z1⟩ := HX1.out w1 (Below.refl _ _)
  clear b1
  go_wp2_with fail
  refine (HK.out _).mono ?_
  rintro e w2 ⟨rfl, b2⟩
  have HB2 : Hid (Below w.heap.size w w2) := bs HB1.out b2
  have HX2 : Hid (∀ W, Below w2.heap.size w2 W → (W.cell? ⟨w.heap.size, 0, none⟩ = some (.int .i64 s) ∧ W.cell? ⟨w.heap.size, 1, none⟩ = some (.int .i64 n))) := fun W q => HX1.out W (bs b2 q)
  clear b2 z0 z1 HX1
  by_cases hok : pgs s n
  case neg =>
    rw [decide_eq_false hok]
    have HA : Hid (cuV l s n = ([], 2)) := HV.out.trans (if_pos hok)
    go_wp2
    go_ret2
    show An w (cuV l s n) _ _
    rw [HA.out]
    exact An.no _ HB2.out
  case pos =>
    rw [decide_eq_true hok]
    have HO : Hid (pgs s n) := hok
    have HA : Hid (cuV l s n = ans res) := HV.out.trans (if_neg (fun q => q hok))
    clear hok HV
    obtain ⟨z0, z1⟩ := HX2.out w2 (Below.refl _ _)
    go_wp2_with fail
    refine (HR.out _ HB2.out HO.out).mono ?_
    rintro e w6 ⟨v6, rfl, r6, b6⟩
    have H6 : Hid (Rw w6 w.heap.size v6 (ans res).1 ∧ Below w.heap.size w w6) := ⟨r6.mono HB2.out.size, bs HB2.out b6⟩
    clear r6 b6
    go_wp2
    go_ret2
    show An w (cuV l s n) _ _
    rw [HA.out]
    exact ⟨v6, rfl, H6.out.1, H6.out.2⟩
end Go.Proofs.Ytmhfgfgiiinpjab.V
