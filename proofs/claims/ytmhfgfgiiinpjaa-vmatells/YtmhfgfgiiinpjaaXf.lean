/- The document's Put, Cut, Protect, Pages over regions: what they answer; no condition but the ranges that each theorem names. -/
import Derived.Test.YtmhfgfgiiinpjaaXe
namespace Go.Proofs.Ytmhfgfgiiinpjaa.V
open Go.ChangeShapes Go.WideShapes Go.ChangeAt Go.RowKit
set_option linter.unusedVariables false
set_option maxRecDepth 8192

theorem Ri.check_r {w : World} {ao : Option Addr} {cap : Nat} {l : List Rg} (h : Ri w ao cap l) : Calls Try.prog 11 #[.slice ao l.length cap] w fun e w' => e = .returned (.int .i64 (chk l)) ∧ Below w.heap.size w w' := Check_r h.rn h.wf
set_option maxHeartbeats 2000000 in
theorem Put_r {w : World} {ao : Option Addr} {cap : Nat} {l : List Rg} (h : Ri w ao cap l) (r : Rg) (hr : wfR r) :
    Calls Try.prog 13 #[.slice ao l.length cap, .agg #[.int .i64 r.p, .int .i64 r.n, .int .u8 r.m]] w (An w (puV l r)) := by
  have HC : Hid (∀ W, Below w.heap.size w W → Calls Try.prog 11 #[.slice ao l.length cap] W fun e w' => e = .returned (.int .i64 (chk l)) ∧ Below W.heap.size W w') := fun W hW => (h.below hW).check_r
  have HB : Hid (∀ o : Obj, Below w.heap.size w (w.alloc o)) := fun o => below1 w o
  have bad : ∀ c : Int, c = 2 ∨ c = 3 → chk l = c → Calls Try.prog 13 #[.slice ao l.length cap, .agg #[.int .i64 r.p, .int .i64 r.n, .int .u8 r.m]] w (An w ([], c)) := fun c hc he => by
    rw [he] at HC
    clear h hr he
    rcases hc with rfl | rfl
    all_goals
      go_enter Try.func13, Try.ntmps13
      go_wp2_with fail
      refine (HC.out _ (HB.out _)).mono ?_
      rintro e w1 ⟨rfl, b1⟩
      have HB1 : Hid (Below w.heap.size w w1) := bs (HB.out _) b1
      clear b1
      go_wp2
      go_ret2
      exact An.no _ HB1.out
  rcases chk_cases l with he | he | he
  case inr.inl => rw [puV_chk he (by decide)]; exact bad 2 (Or.inl rfl) he
  case inr.inr => rw [puV_chk he (by decide)]; exact bad 3 (Or.inr rfl) he
  clear bad
  have hM : May l := chk_may.1 he
  rw [he] at HC
  have HV : Hid (puV l r = if ¬ r.Ok then ([], 2) else if btw l r.p r.e ≠ [] then ([], 171) else ans (wth l r.p r.n [r])) := if_neg (fun q => q he)
  have hee : r.e = r.p + r.n := rfl
  rw [hee] at HV
  have HW : Hid (∀ W, Below w.heap.size w W → pgs r.p r.n → Calls Try.prog 41 #[.slice ao l.length cap, .int .i64 r.p, .int .i64 (r.p + r.n)] W fun e w' => ∃ v, e = .returned v ∧ Rw w' W.heap.size v (btw l r.p (r.p + r.n)) ∧ Below W.heap.size W w') := fun W hW hp => by
    unfold pgs at hp
    exact between_r (h.rn.below hW) hM.2.rs hM.1 _ _ (by omega) (by omega)
  have HR : Hid (∀ W b, Below w.heap.size w W → Rn W (some ⟨b, 0, none⟩) [r] → r.Ok → Calls Try.prog 42 #[.slice ao l.length cap, .agg #[.int .i64 r.p, .int .i64 r.n], .slice (some ⟨b, 0, none⟩) 1 1] W (An W (ans (wth l r.p r.n [r])))) := fun W b hW hA ho =>
    with_r (h.rn.below hW) hM.2 hM.1 ho.pg hA ho (fun q hq => by rw [List.mem_singleton.1 hq]; exact ⟨Int.le_refl _, Int.le_refl _⟩) (Nat.le_refl _)
  have HK : Hid (∀ W, Calls Try.prog 36 #[.int .i64 r.p, .int .i64 r.n] W fun e w' => e = .returned (.bool (decide (pgs r.p r.n))) ∧ w' = W) := fun W => pages_r r.p r.n hr.1 W
  have HM : Hid (∀ W, Calls Try.prog 37 #[.int .u8 r.m] W fun e w' => e = .returned (.bool (decide (prm r.m))) ∧ w' = W) := fun W => perm_r r.m W
  clear h hM he hr hee
  generalize wth l r.p r.n [r] = res at *
  generalize btw l r.p (r.p + r.n) = be at *
  obtain ⟨p, n, m⟩ := r
  simp only at HV HW HR HK HM ⊢
  go_enter Try.func13, Try.ntmps13
  go_wp2_with fail
  refine (HC.out _ (HB.out _)).mono ?_
  rintro e w1 ⟨rfl, b1⟩
  have HB1 : Hid (Below w.heap.size w w1) := bs (HB.out _) b1
  have HX1 : Hid (∀ W, Below w1.heap.size w1 W → (W.cell? ⟨w.heap.size, 0, none⟩ = some (.int .i64 p) ∧ W.cell? ⟨w.heap.size, 1, none⟩ = some (.int .i64 n) ∧ W.cell? ⟨w.heap.size, 2, none⟩ = some (.int .u8 m))) := fun W q => by
    have z (i) := cell_at w #[.int .i64 p, .int .i64 n, .int .u8 m] 29 (bs b1 q) i
    exact ⟨z 0, z 1, z 2⟩
  obtain ⟨z0, z1, z2⟩ := HX1.out w1 (Below.refl _ _)
  clear b1
  go_wp2_with fail
  refine (HK.out _).mono ?_
  rintro e w2 ⟨rfl, rfl⟩
  have HX2 : Hid (∀ W, Below w2.heap.size w2 W → (W.cell? ⟨w.heap.size, 0, none⟩ = some (.int .i64 p) ∧ W.cell? ⟨w.heap.size, 1, none⟩ = some (.int .i64 n) ∧ W.cell? ⟨w.heap.size, 2, none⟩ = some (.int .u8 m))) := HX1.out
  clear HX1
  by_cases hpg : pgs p n
  case neg =>
    rw [decide_eq_false hpg]
    have HA : Hid (puV l ⟨p, n, m⟩ = ([], 2)) := HV.out.trans (if_pos (fun q => hpg q.pg))
    go_wp2
    go_ret2
    show An w (puV l ⟨p, n, m⟩) _ _
    rw [HA.out]
    exact An.no _ HB1.out
  case pos =>
    rw [decide_eq_true hpg]
    have HO : Hid (pgs p n) := hpg
    clear hpg
    go_wp2_with fail
    refine (HM.out _).mono ?_
    rintro e w3 ⟨rfl, rfl⟩
    by_cases hpm : prm m
    case neg =>
      rw [decide_eq_false hpm]
      have HA : Hid (puV l ⟨p, n, m⟩ = ([], 2)) := HV.out.trans (if_pos (fun q => hpm q.pm))
      go_wp2
      go_ret2
      show An w (puV l ⟨p, n, m⟩) _ _
      rw [HA.out]
      exact An.no _ HB1.out
    case pos =>
      rw [decide_eq_true hpm]
      have HOk : Hid ((⟨p, n, m⟩ : Rg).Ok) := ⟨HO.out, hpm⟩
      have HV2 : Hid (puV l ⟨p, n, m⟩ = if be ≠ [] then ([], 171) else ans res) := HV.out.trans (if_neg (fun q => q HOk.out))
      have ho := HO.out
      unfold pgs at ho
      obtain ⟨o1, o2, o3, o4⟩ := ho
      clear hpm HV
      go_wp2_with fail
      refine (HW.out _ HB1.out HO.out).mono ?_
      rintro e w4 ⟨v4, rfl, r4, b4⟩
      obtain ⟨a4, c4, rfl, _⟩ := r4.as
      have HB4 : Hid (Below w.heap.size w w4) := bs HB1.out b4
      have HX4 : Hid (∀ W, Below w4.heap.size w4 W → (W.cell? ⟨w.heap.size, 0, none⟩ = some (.int .i64 p) ∧ W.cell? ⟨w.heap.size, 1, none⟩ = some (.int .i64 n) ∧ W.cell? ⟨w.heap.size, 2, none⟩ = some (.int .u8 m))) := fun W q => HX2.out W (bs b4 q)
      clear b4 HX2 r4 z0 z1 z2
      cases be with
      | cons x y =>
        have HA : Hid (puV l ⟨p, n, m⟩ = ([], 171)) := HV2.out.trans (if_pos (by simp))
        go_wp2
        go_ret2
        show An w (puV l ⟨p, n, m⟩) _ _
        rw [HA.out]
        exact An.no _ HB4.out
      | nil =>
        have HA : Hid (puV l ⟨p, n, m⟩ = ans res) := HV2.out.trans (if_neg (fun q => q rfl))
        obtain ⟨z0, z1, z2⟩ := HX4.out w4 (Below.refl _ _)
        go_wp2_with fail
        refine (HR.out _ _ (bs HB4.out (below1 _ _)) (lit1 w4 p n m _ rfl) HOk.out).mono ?_
        rintro e w6 ⟨v6, rfl, r6, b6⟩
        have H6 : Hid (Rw w6 w.heap.size v6 (ans res).1 ∧ Below w.heap.size w w6) := ⟨r6.mono (bs HB4.out (below1 _ _)).size, bs (bs HB4.out (below1 _ _)) b6⟩
        clear r6 b6
        go_wp2
        go_ret2
        show An w (puV l ⟨p, n, m⟩) _ _
        rw [HA.out]
        exact ⟨v6, rfl, H6.out.1, H6.out.2⟩
set_option maxHeartbeats 2000000 in
theorem Cut_r {w : World} {ao : Option Addr} {cap : Nat} {l : List Rg} (h : Ri w ao cap l) (s n : Int) (hs : -9223372036854775808 ≤ s ∧ s < 9223372036854775808) :
    Calls Try.prog 17 #[.slice ao l.length cap, .agg #[.int .i64 s, .int .i64 n]] w (An w (cuV l s n)) := by
  have HC : Hid (∀ W, Below w.heap.size w W → Calls Try.prog 11 #[.slice ao l.length cap] W fun e w' => e = .returned (.int .i64 (chk l)) ∧ Below W.heap.size W w') := fun W hW => (h.below hW).check_r
  have HB : Hid (∀ o : Obj, Below w.heap.size w (w.alloc o)) := fun o => below1 w o
  have bad : ∀ c : Int, c = 2 ∨ c = 3 → chk l = c → Calls Try.prog 17 #[.slice ao l.length cap, .agg #[.int .i64 s, .int .i64 n]] w (An w ([], c)) := fun c hc he => by
    rw [he] at HC
    clear h hs he
    rcases hc with rfl | rfl
    all_goals
      go_enter Try.func17, Try.ntmps17
      go_wp2_with fail
      refine (HC.out _ (HB.out _)).mono ?_
      rintro e w1 ⟨rfl, b1⟩
      have HB1 : Hid (Below w.heap.size w w1) := bs (HB.out _) b1
      clear b1
      go_wp2
      go_ret2
      exact An.no _ HB1.out
  rcases chk_cases l with he | he | he
  case inr.inl => rw [cuV_chk he (by decide)]; exact bad 2 (Or.inl rfl) he
  case inr.inr => rw [cuV_chk he (by decide)]; exact bad 3 (Or.inr rfl) he
  clear bad
  have hM : May l := chk_may.1 he
  rw [he] at HC
  have HV : Hid (cuV l s n = if ¬ pgs s n then ([], 2) else ans (wth l s n [])) := if_neg (fun q => q he)
  have HR : Hid (∀ W, Below w.heap.size w W → pgs s n → Calls Try.prog 42 #[.slice ao l.length cap, .agg #[.int .i64 s, .int .i64 n], .slice none 0 0] W (An W (ans (wth l s n [])))) := fun W hW ho =>
    with_r (ins := []) (h.rn.below hW) hM.2 hM.1 ho (Rn.nil _ _) trivial (fun q hq => absurd hq List.not_mem_nil) (by decide)
  have HK : Hid (∀ W, Calls Try.prog 36 #[.int .i64 s, .int .i64 n] W fun e w' => e = .returned (.bool (decide (pgs s n))) ∧ Below W.heap.size W w') := fun W => (pages_r s n hs W).mono (fun e w' q => ⟨q.1, by rw [q.2]; exact Below.refl _ _⟩)
  clear h hM he hs
  generalize wth l s n [] = res at *
  go_enter Try.func17, Try.ntmps17
  go_wp2_with fail
  refine (HC.out _ (HB.out _)).mono ?_
  rintro e w1 ⟨rfl, b1⟩
  have HB1 : Hid (Below w.heap.size w w1) := bs (HB.out _) b1
  have HX1 : Hid (∀ W, Below w1.heap.size w1 W → (W.cell? ⟨w.heap.size, 0, none⟩ = some (.int .i64 s) ∧ W.cell? ⟨w.heap.size, 1, none⟩ = some (.int .i64 n))) := fun W q => by
    have z (i) := cell_at w #[.int .i64 s, .int .i64 n] 31 (bs b1 q) i
    exact ⟨z 0, z 1⟩
  obtain ⟨z0, z1⟩ := HX1.out w1 (Below.refl _ _)
  clear b1
  go_wp2_with fail
  refine (HK.out _).mono ?_
  rintro e w2 ⟨rfl, b2⟩
  have HB2 : Hid (Below w.heap.size w w2) := bs HB1.out b2
  have HX2 : Hid (∀ W, Below w2.heap.size w2 W → (W.cell? ⟨w.heap.size, 0, none⟩ = some (.int .i64 s) ∧ W.cell? ⟨w.heap.size, 1, none⟩ = some (.int .i64 n))) := fun W q => HX1.out W (bs b2 q)
  clear b2 z0 z1 HX1
  by_cases hok : pgs s n
  case neg =>
    rw [decide_eq_false hok]
    have HA : Hid (cuV l s n = ([], 2)) := HV.out.trans (if_pos hok)
    go_wp2
    go_ret2
    show An w (cuV l s n) _ _
    rw [HA.out]
    exact An.no _ HB2.out
  case pos =>
    rw [decide_eq_true hok]
    have HO : Hid (pgs s n) := hok
    have HA : Hid (cuV l s n = ans res) := HV.out.trans (if_neg (fun q => q hok))
    clear hok HV
    obtain ⟨z0, z1⟩ := HX2.out w2 (Below.refl _ _)
    go_wp2_with fail
    refine (HR.out _ HB2.out HO.out).mono ?_
    rintro e w6 ⟨v6, rfl, r6, b6⟩
    have H6 : Hid (Rw w6 w.heap.size v6 (ans res).1 ∧ Below w.heap.size w w6) := ⟨r6.mono HB2.out.size, bs HB2.out b6⟩
    clear r6 b6
    go_wp2
    go_ret2
    show An w (cuV l s n) _ _
    rw [HA.out]
    exact ⟨v6, rfl, H6.out.1, H6.out.2⟩
set_option maxHeartbeats 2000000 in
theorem Protect_r {w : World} {ao : Option Addr} {cap : Nat} {l : List Rg} (h : Ri w ao cap l) (s n m : Int) (hs : wfR ⟨s, n, m⟩) :
    Calls Try.prog 19 #[.slice ao l.length cap, .agg #[.int .i64 s, .int .i64 n], .int .u8 m] w (An w (prV l s n m)) := by
  have HC : Hid (∀ W, Below w.heap.size w W → Calls Try.prog 11 #[.slice ao l.length cap] W fun e w' => e = .returned (.int .i64 (chk l)) ∧ Below W.heap.size W w') := fun W hW => (h.below hW).check_r
  have HB : Hid (∀ o : Obj, Below w.heap.size w (w.alloc o)) := fun o => below1 w o
  have bad : ∀ c : Int, c = 2 ∨ c = 3 → chk l = c → Calls Try.prog 19 #[.slice ao l.length cap, .agg #[.int .i64 s, .int .i64 n], .int .u8 m] w (An w ([], c)) := fun c hc he => by
    rw [he] at HC
    clear h hs he
    rcases hc with rfl | rfl
    all_goals
      go_enter Try.func19, Try.ntmps19
      go_wp2_with fail
      refine (HC.out _ (HB.out _)).mono ?_
      rintro e w1 ⟨rfl, b1⟩
      have HB1 : Hid (Below w.heap.size w w1) := bs (HB.out _) b1
      clear b1
      go_wp2
      go_ret2
      exact An.no _ HB1.out
  rcases chk_cases l with he | he | he
  case inr.inl => rw [prV_chk he (by decide)]; exact bad 2 (Or.inl rfl) he
  case inr.inr => rw [prV_chk he (by decide)]; exact bad 3 (Or.inr rfl) he
  clear bad
  have hM : May l := chk_may.1 he
  rw [he] at HC
  have HV : Hid (prV l s n m = if ¬ (⟨s, n, m⟩ : Rg).Ok then ([], 2) else if tot (btw l s (s + n)) ≠ n then ([], 170) else ans (wth l s n [⟨s, n, m⟩])) := if_neg (fun q => q he)
  have HW : Hid (∀ W, Below w.heap.size w W → pgs s n → Calls Try.prog 41 #[.slice ao l.length cap, .int .i64 s, .int .i64 (s + n)] W fun e w' => ∃ a c, e = .returned (.slice a (btw l s (s + n)).length c) ∧ Rn w' a (btw l s (s + n)) ∧ Below W.heap.size W w') := fun W hW hp => by
    unfold pgs at hp
    refine (between_r (h.rn.below hW) hM.2.rs hM.1 s (s + n) (by omega) (by omega)).mono ?_
    rintro e w' ⟨v, rfl, hr, hb⟩
    obtain ⟨a, c, rfl, hq⟩ := hr.as
    exact ⟨a, c, rfl, hq, hb⟩
  have HN : Hid (∀ W a c, Rn W a (btw l s (s + n)) → Calls Try.prog 46 #[.slice a (btw l s (s + n)).length c] W fun e w' => e = .returned (.int .i64 (tot (btw l s (s + n)))) ∧ w' = W) := fun W a c hR => count_r hR (btw_rs hM.2.rs)
  have HR : Hid (∀ W b, Below w.heap.size w W → Rn W (some ⟨b, 0, none⟩) [⟨s, n, m⟩] → (⟨s, n, m⟩ : Rg).Ok → Calls Try.prog 42 #[.slice ao l.length cap, .agg #[.int .i64 s, .int .i64 n], .slice (some ⟨b, 0, none⟩) 1 1] W (An W (ans (wth l s n [⟨s, n, m⟩])))) := fun W b hW hA ho =>
    with_r (h.rn.below hW) hM.2 hM.1 ho.pg hA ho (fun q hq => by rw [List.mem_singleton.1 hq]; exact ⟨Int.le_refl _, Int.le_refl _⟩) (Nat.le_refl _)
  have HK : Hid (∀ W, Calls Try.prog 36 #[.int .i64 s, .int .i64 n] W fun e w' => e = .returned (.bool (decide (pgs s n))) ∧ w' = W) := fun W => pages_r s n hs.1 W
  have HM : Hid (∀ W, Calls Try.prog 37 #[.int .u8 m] W fun e w' => e = .returned (.bool (decide (prm m))) ∧ w' = W) := fun W => perm_r m W
  clear h hM he hs
  generalize wth l s n [⟨s, n, m⟩] = res at *
  generalize btw l s (s + n) = be at *
  go_enter Try.func19, Try.ntmps19
  go_wp2_with fail
  refine (HC.out _ (HB.out _)).mono ?_
  rintro e w1 ⟨rfl, b1⟩
  have HB1 : Hid (Below w.heap.size w w1) := bs (HB.out _) b1
  have HX1 : Hid (∀ W, Below w1.heap.size w1 W → (W.cell? ⟨w.heap.size, 0, none⟩ = some (.int .i64 s) ∧ W.cell? ⟨w.heap.size, 1, none⟩ = some (.int .i64 n))) := fun W q => by
    have z (i) := cell_at w #[.int .i64 s, .int .i64 n] 31 (bs b1 q) i
    exact ⟨z 0, z 1⟩
  obtain ⟨z0, z1⟩ := HX1.out w1 (Below.refl _ _)
  clear b1
  go_wp2_with fail
  refine (HK.out _).mono ?_
  rintro e w2 ⟨rfl, rfl⟩
  have HX2 : Hid (∀ W, Below w2.heap.size w2 W → (W.cell? ⟨w.heap.size, 0, none⟩ = some (.int .i64 s) ∧ W.cell? ⟨w.heap.size, 1, none⟩ = some (.int .i64 n))) := HX1.out
  clear HX1
  by_cases hok : pgs s n
  case neg =>
    rw [decide_eq_false hok]
    have HA : Hid (prV l s n m = ([], 2)) := HV.out.trans (if_pos (fun q => hok q.pg))
    go_wp2
    go_ret2
    show An w (prV l s n m) _ _
    rw [HA.out]
    exact An.no _ HB1.out
  case pos =>
    rw [decide_eq_true hok]
    have HO : Hid (pgs s n) := hok
    clear hok
    go_wp2_with fail
    refine (HM.out _).mono ?_
    rintro e w' ⟨rfl, rfl⟩
    by_cases hpm : prm m
    case neg =>
      rw [decide_eq_false hpm]
      have HA : Hid (prV l s n m = ([], 2)) := HV.out.trans (if_pos (fun q => hpm q.pm))
      go_wp2
      go_ret2
      show An w (prV l s n m) _ _
      rw [HA.out]
      exact An.no _ HB1.out
    case pos =>
      rw [decide_eq_true hpm]
      have HOk : Hid ((⟨s, n, m⟩ : Rg).Ok) := ⟨HO.out, hpm⟩
      have HV2 : Hid (prV l s n m = if tot be ≠ n then ([], 170) else ans res) := HV.out.trans (if_neg (fun q => q HOk.out))
      have ho := HO.out
      unfold pgs at ho
      obtain ⟨o1, o2, o3, o4⟩ := ho
      clear hpm HV
      have hS2 := HX2.out w' (Below.refl _ _)
      have hwr : IntKind.i64.wrap (s + n) = s + n := by rw [IntKind.wrap_i64]; omega
      clear z0 z1
      go_wp2_with fail
      go_region_held3 (fun W => W.cell? ⟨w.heap.size, 0, none⟩ = some (.int .i64 s) ∧ W.cell? ⟨w.heap.size, 1, none⟩ = some (.int .i64 n))
        (first | exact hS2 | (refine HX2.out _ ?_; (repeat (first | with_reducible exact Below.refl _ _ | with_reducible exact HP.out | with_reducible refine Below.drew ?_))))
        (first
          | (go_at_call 41; refine (HW.out _ (bs HB1.out (by (repeat (first | with_reducible exact Below.refl _ _ | with_reducible refine Below.drew ?_)))) HO.out).mono ?_; rintro e w3 ⟨a3, c3, rfl, q3, b3⟩; have HP : Hid (Below w'.heap.size w' w3) := bs (by (repeat (first | with_reducible exact Below.refl _ _ | with_reducible refine Below.drew ?_))) b3; have HR3 : Hid (Rn w3 a3 be) := q3; clear b3 q3)
          | (go_at_call 46; refine (HN.out _ _ _ (by first | exact HR3.out | exact HR3.out.drew)).mono ?_; rintro e w4 ⟨rfl, rfl⟩))
      have HB4 : Hid (Below w.heap.size w w4) := bs HB1.out HP.out
      have HX4 : Hid (∀ W, Below w4.heap.size w4 W → (W.cell? ⟨w.heap.size, 0, none⟩ = some (.int .i64 s) ∧ W.cell? ⟨w.heap.size, 1, none⟩ = some (.int .i64 n))) := fun W q => HX2.out W (bs HP.out q)
      obtain ⟨z0, z1⟩ := HX4.out w4 (Below.refl _ _)
      clear HR3
      by_cases ht : tot be = n
      case neg =>
        have hlt : (tot be == n) = false := by simpa using ht
        have HA : Hid (prV l s n m = ([], 170)) := HV2.out.trans (if_pos ht)
        go_wp2
        go_ret2
        show An w (prV l s n m) _ _
        rw [HA.out]
        exact An.no _ HB4.out
      case pos =>
        have hlt : (tot be == n) = true := by simpa using ht
        have HA : Hid (prV l s n m = ans res) := HV2.out.trans (if_neg (fun q => q ht))
        go_wp2_with fail
        refine (HR.out _ _ (bs HB4.out (by (repeat (first | with_reducible exact Below.refl _ _ | with_reducible refine Below.drew ?_ | with_reducible refine bal ?_ _)))) (by first | with_reducible exact lit1 _ s n m _ rfl | exact (lit1 _ s n m _ rfl).drew) HOk.out).mono ?_
        rintro e w6 ⟨v6, rfl, r6, b6⟩
        have H6 : Hid (Rw w6 w.heap.size v6 (ans res).1 ∧ Below w.heap.size w w6) := ⟨r6.mono (bs HB4.out (by (repeat (first | with_reducible exact Below.refl _ _ | with_reducible refine Below.drew ?_ | with_reducible refine bal ?_ _)))).size, bs (bs HB4.out (by (repeat (first | with_reducible exact Below.refl _ _ | with_reducible refine Below.drew ?_ | with_reducible refine bal ?_ _)))) b6⟩
        clear r6 b6
        go_wp2
        go_ret2
        show An w (prV l s n m) _ _
        rw [HA.out]
        exact ⟨v6, rfl, H6.out.1, H6.out.2⟩
end Go.Proofs.Ytmhfgfgiiinpjaa.V
