/- Take, Give: what each answers, what is taken behind it; no condition but an area, the table of math/bits. -/
import Derived.Test.YtncelpphbhcogaaDoorSf
namespace Go.Proofs.YtncelpphbhcogaaDoor.Z
open Go.ChangeShapes Go.WideShapes Go.ChangeAt Go.RowKit
set_option linter.unusedVariables false
set_option maxRecDepth 8192

theorem grown_drewN (w : World) (n : Nat) (row : Option Nat) : w.grownBy (w.drewN n) row := ⟨rfl, rfl, rfl, Nat.le_refl _, fun _ _ _ => rfl⟩
/-- What a call that turns an area leaves. -/
def Tu (w : World) (s g : Nat) (T' : List Bool) (w' : World) : Prop := (∃ W', Sl w' s g T' W') ∧ w.grownBy w' (some g)
theorem Tu.same {w : World} {s g : Nat} {T : List Bool} {W : List Nat} (h : Sl w s g T W) (n : Nat) : Tu w s g T (w.drewN n) := ⟨⟨W, h.of_eq rfl rfl⟩, grown_drewN w n _⟩
theorem Tu.set {w : World} {s g : Nat} {T : List Bool} {W : List Nat} (h : Sl w s g T W) (n : Nat) {j x : Nat} {T' : List Bool} (hw : Wd (W.set j x) T') (hl : T'.length = T.length) : Tu w s g T' ((w.drewN n).drew.setCell ⟨g, j, none⟩ (.int .u64 (x : Int))) := by
  have hd : Sl (w.drewN n).drew s g T W := h.of_eq rfl rfl
  obtain ⟨h1, h2⟩ := hd.set hw hl
  exact ⟨⟨_, h1⟩, (grown_drewN w (n + 1) _).trans h2⟩
theorem Take_any {w : World} {s g : Nat} {T : List Bool} {W : List Nat} (h : Sl w s g T W) (ht : Tb w) (hg0 : g ≠ 0) : Calls Tryd.prog 8 #[.pointer (some ⟨s, 0, none⟩)] w fun e w' => ∃ T' a er, e = .returned (.tuple #[.int .i64 a, .int .i64 er]) ∧ TkS T T' a er ∧ Tu w s g T' w' := by
  have c1 := h.c1
  have CM := made_any h
  have hm16 := h.m
  have HS : Hid (Sl w s g T W) := h
  have HT : Hid (Tb w) := ht
  clear h ht
  go_enter Tryd.func8, Tryd.ntmps8
  go_wp2_with (go_at_call 21; refine CM.mono ?_; rintro e w' ⟨rfl, hw⟩; obtain rfl := hw.symm)
  clear CM
  go_loopw [15] (fun i wr => ∃ k q, k ≤ W.length ∧ i = .int .i64 (k : Nat) ∧ wr = w.drewN q ∧ ∀ x, x < k → W.getD x 0 = 0) (fun i _ => W.length - (intOf i).toNat)
  case atStart => exact ⟨0, 0, by omega, rfl, rfl, fun x hx => absurd hx (Nat.not_lt_zero _)⟩
  case round =>
    obtain ⟨k, q, hk, rfl, hwr, hz⟩ := hrel
    have HWR : Hid (wr = w.drewN q) := hwr
    have c1' : wr.cell? ⟨s, 1, none⟩ = some (.slice (some ⟨g, 0, none⟩) W.length W.length) := by rw [hwr]; exact c1
    by_cases hlt : k < W.length
    · have cw : wr.cell? ⟨g, k, none⟩ = some (.int .u64 (W.getD k 0 : Nat)) := by rw [hwr]; exact HS.out.cw hlt
      by_cases h0 : W.getD k 0 = 0
      · have HZ : Hid (∀ x, x < k + 1 → W.getD x 0 = 0) := fun x hx => by
          rcases Nat.lt_succ_iff_lt_or_eq.1 hx with z | z
          · exact hz x z
          · rw [z]; exact h0
        rw [h0] at cw
        clear hz h0 hwr
        generalize W.length = m at *
        go_wp2
        go_roundw
        case rel => exact ⟨k + 1, q, by omega, by go_num, HWR.out, HZ.out⟩
        case measure => simp [intOf]; omega
      · have hlt64 : W.getD k 0 < 18446744073709551616 := HS.out.ws.lt
        obtain ⟨hc, hb, hlo⟩ := ctz_bits h0 hlt64
        have hfr := HS.out.ws.first hlt hz hc hb hlo
        have hlt2 := hfr.lt
        have hn := HS.out.n
        have e1 : (k * 64 + Lib.ctz 64 (W.getD k 0)) / 64 = k := by omega
        have e2 : (k * 64 + Lib.ctz 64 (W.getD k 0)) % 64 = Lib.ctz 64 (W.getD k 0) := by omega
        have hwt := HS.out.ws.take hlt2
        rw [e1, e2] at hwt
        have han := bits_andNot_u64_nat (W.getD k 0) (2 ^ (Lib.ctz 64 (W.getD k 0))) hlt64 (Nat.lt_of_lt_of_le (Nat.pow_lt_pow_right (by omega) hc) (by decide))
        have HTZ : Hid (Calls _ _ _ _ _) := tz_any h0 hlt64 (w := wr) (by rw [hwr]; exact HT.out)
        have HB : Hid (∀ w, Calls Tryd.prog 19 #[.int .i64 ((k * 64 + Lib.ctz 64 (W.getD k 0) : Nat) : Int)] w fun e w' => e = .returned (.int .u64 ((2 ^ Lib.ctz 64 (W.getD k 0) : Nat) : Int)) ∧ w' = w) := fun w => by
          have := bit_any (k * 64 + Lib.ctz 64 (W.getD k 0)) (by omega) w
          rwa [e2] at this
        have HW := Tu.set HS.out q hwt (List.length_set)
        rw [← hwr] at HW
        have FIN : Hid (TkS T (T.set (k * 64 + Lib.ctz 64 (W.getD k 0)) true) ((k * 64 + Lib.ctz 64 (W.getD k 0) : Nat) : Int) 0) := Or.inl ⟨_, hfr, rfl, rfl, rfl⟩
        have HW' : Hid (Tu w s g (T.set (k * 64 + Lib.ctz 64 (W.getD k 0)) true) _) := HW
        have hfz : wr.frozen? ⟨g, k, none⟩ = false := by rw [hwr]; exact HS.out.wd.frozen k
        have hne : ((W.getD k 0 : Nat) : Int) ≠ 0 := by omega
        have hsl : (k : Int) * 64 + ((Lib.ctz 64 (W.getD k 0) : Nat) : Int) = ((k * 64 + Lib.ctz 64 (W.getD k 0) : Nat) : Int) := by omega
        have hslk : k * 64 + Lib.ctz 64 (W.getD k 0) < 1024 := by omega
        clear hz h0 hb hlo hfr hlt2 e1 e2 hwt HW HT hlt64 hwr c1
        generalize W.getD k 0 &&& (2 ^ 64 - 1 - 2 ^ Lib.ctz 64 (W.getD k 0)) = wx at *
        generalize 2 ^ Lib.ctz 64 (W.getD k 0) = pw at *
        generalize k * 64 + Lib.ctz 64 (W.getD k 0) = K at *
        generalize Lib.ctz 64 (W.getD k 0) = c at *
        generalize W.getD k 0 = wd at *
        generalize W.length = m at *
        have b5 : IntKind.i64.wrap (k : Int) = k := by simp (disch := omega) only [IntWalk.i64_in]
        have b6 : IntKind.i64.wrap ((k : Int) * 64 + c) = (K : Int) := by rw [← hsl]; simp (disch := omega) only [IntWalk.i64_in]
        have b0 : (0 : Int) ≤ (k : Int) := by omega
        have b1 : (k : Int) < (m : Int) := by omega
        go_wp2_with (go_at_call 22; refine HTZ.out.mono ?_; rintro e w' ⟨rfl, hw⟩; obtain rfl := hw.symm)
        go_region_with ((go_at_call 19; refine (HB.out _).mono ?_; rintro e w' ⟨rfl, rfl⟩))
        all_goals
          go_wp2
          go_ret2
          exact ⟨_, _, _, rfl, FIN.out, HW'.out⟩
    · obtain rfl : k = W.length := by omega
      have FIN : Hid (TkS T T 0 4) := Or.inr ⟨HS.out.ws.none_ hz, rfl, rfl, rfl⟩
      have HW : Hid (Tu w s g T wr) := by rw [hwr]; exact Tu.same HS.out q
      clear hz hwr
      generalize W.length = m at *
      go_wp2
      go_ret2
      exact ⟨_, _, _, rfl, FIN.out, HW.out⟩
theorem Give_any {w : World} {s g : Nat} {T : List Bool} {W : List Nat} (h : Sl w s g T W) (x : Int) : Calls Tryd.prog 10 #[.pointer (some ⟨s, 0, none⟩), .int .i64 x] w fun e w' => ∃ T' er, e = .returned (.int .i64 er) ∧ GvS T x T' er ∧ Tu w s g T' w' := by
  have c1 := h.c1
  have CM := made_any h
  have HK : Hid (Calls _ _ _ _ _) := taken_any h x
  have HS : Hid (Sl w s g T W) := h
  clear h
  cases htk : tk T x
  · have FIN : Hid (GvS T x T 91) := by
      refine Or.inr ⟨fun k hk => ?_, rfl, rfl⟩
      subst hk
      intro q
      have hlt := (List.getElem?_eq_some_iff.1 q).1
      rw [tk_in hlt] at htk
      rw [getD_bz hlt, htk] at q
      cases q
    rw [htk] at HK
    clear htk
    go_enter Tryd.func10, Tryd.ntmps10
    go_wp2_with (go_at_call 21; refine CM.mono ?_; rintro e w' ⟨rfl, hw⟩; obtain rfl := hw.symm)
    refine HK.out.mono ?_
    rintro e w' ⟨rfl, q, rfl⟩
    go_wp2
    go_ret
    exact ⟨_, _, rfl, FIN.out, Tu.same HS.out q⟩
  · obtain ⟨k, rfl, hlt, hb⟩ : ∃ k : Nat, x = (k : Int) ∧ k < T.length ∧ T.getD k false = true := by
      unfold tk at htk
      have := of_decide_eq_true htk
      exact ⟨x.toNat, by omega, by omega, this.2.2⟩
    have FIN : Hid (GvS T (k : Int) (T.set k false) 0) := Or.inl ⟨k, rfl, by rw [getD_bz hlt, hb], rfl, rfl⟩
    rw [htk] at HK
    have hn := HS.out.n
    have hm := HS.out.m
    have hkw := HS.out.ws.word hlt
    have cw := HS.out.cw hkw
    have hlt64 : W.getD (k / 64) 0 < 18446744073709551616 := HS.out.ws.lt
    have hor := bits_or_u64_nat (W.getD (k / 64) 0) (2 ^ (k % 64)) hlt64 (Nat.lt_of_lt_of_le (Nat.pow_lt_pow_right (by omega) (Nat.mod_lt _ (by omega))) (by decide))
    have HB : Hid (∀ w, Calls Tryd.prog 19 #[.int .i64 (k : Int)] w fun e w' => e = .returned (.int .u64 ((2 ^ (k % 64) : Nat) : Int)) ∧ w' = w) := fun w => bit_any k (by omega) w
    have hdv : (k : Int) / 64 = ((k / 64 : Nat) : Int) := by omega
    have HW : Hid (∀ q, Tu w s g (T.set k false) _) := fun q => Tu.set HS.out q (HS.out.ws.give hlt) (List.length_set)
    have hfz : w.frozen? ⟨g, k / 64, none⟩ = false := HS.out.wd.frozen _
    have HWR : Hid (∀ W' q, W' = w.drewN q → (Tu w s g (T.set k false) (W'.drew.setCell ⟨g, k / 64, none⟩ (.int .u64 ((W.getD (k / 64) 0 ||| 2 ^ (k % 64) : Nat) : Int)))) ∧ W'.cell? ⟨s, 1, none⟩ = some (.slice (some ⟨g, 0, none⟩) W.length W.length) ∧ W'.cell? ⟨g, k / 64, none⟩ = some (.int .u64 (W.getD (k / 64) 0 : Nat)) ∧ W'.frozen? ⟨g, k / 64, none⟩ = false) := fun W' q e => by
      subst e
      exact ⟨HW.out q, c1, cw, hfz⟩
    have hk10 : k < 1024 := by omega
    clear htk hlt hb hlt64 HW cw hfz c1
    generalize 2 ^ (k % 64) = pw at *
    generalize W.getD (k / 64) 0 = wd at *
    generalize wd ||| pw = wx at *
    obtain ⟨j, hj⟩ : ∃ j, k / 64 = j := ⟨_, rfl⟩
    rw [hj] at hdv hkw HWR
    clear hj
    generalize W.length = m at *
    have b0 : (0 : Int) ≤ (j : Int) := by omega
    have b1 : (j : Int) < (m : Int) := by omega
    have b5 : IntKind.i64.wrap (j : Int) = j := by simp (disch := omega) only [IntWalk.i64_in]
    go_enter Tryd.func10, Tryd.ntmps10
    go_wp2_with (go_at_call 21; refine CM.mono ?_; rintro e w' ⟨rfl, hw⟩; obtain rfl := hw.symm)
    refine HK.out.mono ?_
    rintro e wr ⟨rfl, q, hq⟩
    obtain ⟨hT, c1, cw, hfz⟩ := HWR.out wr q hq
    have HT : Hid (Tu _ _ _ _ _) := hT
    clear hq hT HWR HK CM
    go_wp2
    go_region_with ((go_at_call 19; refine (HB.out _).mono ?_; rintro e w' ⟨rfl, rfl⟩))
    all_goals
      go_wp2
      go_ret
      exact ⟨_, _, rfl, FIN.out, HT.out⟩
end Go.Proofs.YtncelpphbhcogaaDoor.Z
