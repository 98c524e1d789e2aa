/- What a slab's Take and Give tell and leave, by the frames' uses and masks alone; no condition but those that each theorem names. -/
import Derived.Test.YtkbpnkjjmipjfaaGreatVSa
namespace Go.Proofs.YtkbpnkjjmipjfaaGreat.P
open B Go.ChangeShapes Go.WideShapes Go.ChangeAt Go.RowKit
set_option linter.unusedVariables false
set_option maxRecDepth 8192

def LP (u x i : Nat) : Prop := i < pn u ∧ x.testBit i = false ∧ ∀ j, j < i → x.testBit j = true
theorem LP.uniq {u x i j : Nat} (h : LP u x i) (h' : LP u x j) : i = j := by
  rcases Nat.lt_trichotomy i j with q | q | q
  · have := h'.2.2 i q
    rw [h.2.1] at this
    cases this
  · exact q
  · have := h.2.2 j q
    rw [h'.2.1] at this
    cases this
def Rm (u : Nat) (mk : Ms) (g : Nat) : Prop := rmy u mk g ∧ ∀ g', g' < g → ¬ rmy u mk g'
def TkS (P : Par) (u : Nat) (us : Us) (mk : Ms) (a e : Nat) (us' : Us) (mk' : Ms) : Prop :=
  (∃ g i, Rm u mk g ∧ LP u (mk g) i ∧ a = 256 * g + i * sz u ∧ e = 0 ∧ us' = us ∧ mk' = put mk g (mk g ||| 2 ^ i)) ∨
  ((∀ g, ¬ rmy u mk g) ∧ ∃ g, Tko P us u g e us' ∧ ((e = 0 ∧ a = 256 * g ∧ mk' = put mk g 1) ∨ (e ≠ 0 ∧ a = 0 ∧ mk' = mk)))
def Lk (u : Nat) (us : Us) (mk : Ms) : Prop := ∀ g, mk g ≠ 0 → us g = some u
theorem or_ne {x i : Nat} : x ||| 2 ^ i ≠ 0 := fun h => by
  have := congrArg (fun z => Nat.testBit z i) h
  simp at this
theorem TkS.lk {P : Par} {u : Nat} {us : Us} {mk : Ms} {a e : Nat} {us' : Us} {mk' : Ms} (h : TkS P u us mk a e us' mk') (hl : Lk u us mk) : Lk u us' mk' := by
  rcases h with ⟨g, i, h1, h2, rfl, rfl, rfl, rfl⟩ | ⟨h0, g, h1, h2⟩
  · intro z hz
    by_cases q : z = g
    · subst q; exact hl z h1.1.1
    · rw [put_other _ _ _ _ q] at hz
      exact hl z hz
  · rcases h1 with ⟨rfl, ⟨x, t1, t2, rfl⟩, t3⟩ | ⟨rfl, t1, rfl, t3⟩
    · rcases h2 with ⟨_, _, rfl⟩ | ⟨q, _⟩
      · intro z hz
        unfold pt
        by_cases q : z = g
        · rw [if_pos q]
        · rw [if_neg q]
          rw [put_other _ _ _ _ q] at hz
          exact hl z hz
      · exact absurd rfl q
    · rcases h2 with ⟨q, _⟩ | ⟨_, _, rfl⟩
      · cases q
      · exact hl
theorem lp_some {u x : Nat} (hx : x < 2 ^ pn u) (hf : x ≠ 2 ^ pn u - 1) : ∃ i, i < pn u ∧ x.testBit i = false := by
  by_cases h : ∃ i, i < pn u ∧ x.testBit i = false
  · exact h
  · exfalso
    apply hf
    apply Nat.eq_of_testBit_eq
    intro i
    rw [Nat.testBit_two_pow_sub_one]
    by_cases hi : i < pn u
    · cases q : x.testBit i
      · exact absurd ⟨i, hi, q⟩ h
      · simp [hi]
    · rw [Nat.testBit_lt_two_pow (Nat.lt_of_lt_of_le hx (Nat.pow_le_pow_right (by omega) (by omega)))]
      simp [hi]
def Hit (u : Nat) (mk : Ms) (a g i : Nat) : Prop := i < pn u ∧ a = 256 * g + i * sz u ∧ (mk g).testBit i = true
def clr (x i : Nat) : Nat := x &&& (65535 - 2 ^ i)
def GvS (u : Nat) (us : Us) (mk : Ms) (a e : Nat) (us' : Us) (mk' : Ms) : Prop :=
  (∃ g i, Hit u mk a g i ∧ e = 0 ∧ mk' = put mk g (clr (mk g) i) ∧ us' = if clr (mk g) i = 0 then pt us g none else us) ∨
  ((∀ g i, ¬ Hit u mk a g i) ∧ e = 91 ∧ us' = us ∧ mk' = mk)
theorem place_lt {u i : Nat} (hi : i < pn u) : i * sz u + sz u ≤ 256 := by
  have := Nat.mul_le_mul_right (sz u) (show i + 1 ≤ pn u from hi)
  rw [Nat.add_mul, Nat.one_mul, pn_sz] at this
  exact this
theorem clr_bit {x i : Nat} (hi : i < 16) (hx : x < 65536) (j : Nat) : (clr x i).testBit j = (x.testBit j && decide (j ≠ i)) := by
  unfold clr
  rw [Nat.testBit_and]
  by_cases hj : j < 16
  · congr 1
    have : ∀ (i j : Fin 16), (65535 - 2 ^ i.val).testBit j.val = decide (j.val ≠ i.val) := by decide
    exact this ⟨i, hi⟩ ⟨j, hj⟩
  · rw [Nat.testBit_lt_two_pow (Nat.lt_of_lt_of_le hx (show 65536 ≤ 2 ^ j from Nat.pow_le_pow_right (n := 2) (by omega) (show 16 ≤ j by omega)))]
    simp
theorem clr_le (x i : Nat) : clr x i ≤ x := Nat.and_le_left
theorem GvS.lk {u : Nat} {us : Us} {mk : Ms} {a e : Nat} {us' : Us} {mk' : Ms} (h : GvS u us mk a e us' mk') (hl : Lk u us mk) : Lk u us' mk' := by
  rcases h with ⟨g, i, h1, rfl, rfl, rfl⟩ | ⟨h0, rfl, rfl, rfl⟩
  · intro z hz
    by_cases q : z = g
    · subst q
      rw [put_same] at hz
      rw [if_neg hz]
      refine hl z (fun y => hz ?_)
      have := clr_le (mk z) i
      omega
    · rw [put_other _ _ _ _ q] at hz
      split
      · unfold pt
        rw [if_neg q]
        exact hl z hz
      · exact hl z hz
  · exact hl
end Go.Proofs.YtkbpnkjjmipjfaaGreat.P
namespace Go.Proofs.YtkbpnkjjmipjfaaGreat.P
open B Go.ChangeShapes Go.WideShapes Go.ChangeAt Go.RowKit
set_option linter.unusedVariables false
set_option maxRecDepth 8192

theorem Sl.store {w : World} {s b p u : Nat} {mk : Ms} (h : Sl w s b p u mk) (g : Nat) (hg : g < 4096) (x : Nat) (hx0 : x ≠ 0) (hx : x < 2 ^ pn u) :
    ∃ w', (Instr.mapUpdate 122 (.map (some b)) (.int .i64 g) (.int .u16 x)).run Tryz.prog w = .ok () w' ∧ Sl w' s b p u (put mk g x) ∧ w.grownBy w' (some b) := by
  obtain ⟨w', h1, h2, h3⟩ := h.mp.store (Nat.le_refl _) g hg x (Nat.lt_of_lt_of_le hx (two_pn u))
  refine ⟨w', h1, h.turned h3 (by rw [om_put _ _ _ hx0]; exact h2) (fun z => ?_), h3⟩
  by_cases e : z = g
  · subst e; rw [put_same]; exact hx
  · rw [put_other _ _ _ _ e]; exact h.ml z
theorem kp_tail {A A' : Nat → Prop} {w WA w3 w5 : World} {b : Nat} (h : Kp A A' w WA) (h2 : Below WA.heap.size WA w3) (h3 : w3.grownBy w5 (some b)) (hb : A b) : Kp A A' w w5 :=
  ⟨h3.os.trans (h2.os.trans h.os), h3.tape.trans (h2.tape.trans h.tape), h3.output.trans (h2.output.trans h.output), Nat.le_trans h.size (Nat.le_trans h2.size h3.size), fun k hk hn =>
    (h3.block k (Nat.lt_of_lt_of_le hk (Nat.le_trans h.size h2.size)) (some_ne (fun q => hn (q ▸ hb)))).trans ((h2.block k (Nat.lt_of_lt_of_le hk h.size)).trans (h.block k hk hn)), h.new⟩
theorem kp_plus {F F' : Nat → Prop} {w w' : World} (h : Kp F F' w w') (b : Nat) : Kp (fun x => F x ∨ x = b) (fun x => F' x ∨ x = b) w w' :=
  ⟨h.os, h.tape, h.output, h.size, fun k hk hn => h.block k hk (fun z => hn (Or.inl z)), fun k hk => by
    rcases hk with z | z
    · exact (h.new k z).imp Or.inl id
    · exact Or.inl (Or.inr z)⟩
theorem kp_out {F F' : Nat → Prop} {w w' : World} (h : Kp F F' w w') {x : Nat} (hx : x < w.heap.size) (hn : ¬ F x) : ¬ F' x := fun z => by
  rcases h.new x z with q | q
  · exact hn q
  · omega
set_option maxHeartbeats 4000000 in
theorem STake_s {w : World} {F : Nat → Prop} {p : Nat} {P : Par} {us : Us} {s b u : Nat} {mk : Ms} (hp : Po w F p P us) (hs : Sl w s b p u mk) (d1 : ¬ F s) (d2 : ¬ F b) (lk : Lk u us mk) :
    Calls Tryz.prog 75 #[.pointer (some ⟨s, 0, none⟩)] w fun x w' => ∃ (a e : Nat) (us' : Us) (mk' : Ms) (F' : Nat → Prop), x = .returned (.tuple #[.int .u64 a, .int .i64 e]) ∧ TkS P u us mk a e us' mk' ∧ Po w' F' p P us' ∧ Sl w' s b p u mk' ∧ ¬ F' s ∧ ¬ F' b ∧ Kp (fun x => F x ∨ x = b) (fun x => F' x ∨ x = b) w w' := by
  have C1 : Hid (Calls _ _ _ _ _) := smade_s hs
  have CR : Hid (Calls _ _ _ _ _) := roomy_s hs
  have HP0 : Hid (Po w F p P us) := hp
  have HS0 : Hid (Sl w s b p u mk) := hs
  have hu := hs.u4
  clear hp hs
  go_enter Tryz.func75, Tryz.ntmps75
  go_wp2_with (go_at_call 111; refine C1.out.mono ?_; rintro e w' ⟨rfl, h⟩; obtain rfl := h.symm)
  refine CR.out.mono ?_
  rintro e w1 ⟨v1, l1, rfl, hI1, hl1, hm1, hb1⟩
  have HB1 : Hid (Below w.heap.size w w1) := hb1
  have HSA : Hid (Sl w1 s b p u mk) := HS0.out.below hb1
  have HPA : Hid (Po w1 F p P us) := HP0.out.below hb1
  have HM1 : Hid (∀ x : Int, x ∈ l1 ↔ ∃ g : Nat, x = g ∧ rmy u mk g) := hm1
  have CL : Hid (Calls _ _ _ _ _) := least_is hI1 (by omega)
  clear hI1 hm1 hb1 C1 CR HP0 HS0
  go_wp2_with fail
  refine CL.out.mono ?_
  rintro e w2 ⟨m2, rfl, hle, hw2⟩
  obtain rfl := hw2.symm
  clear hw2 CL
  by_cases h0 : 0 < l1.length
  · obtain ⟨g, rfl, hr⟩ := (HM1.out m2).1 (hle h0).1
    have HRM : Hid (Rm u mk g) := ⟨hr, fun g' hg' z => by
      have := (hle h0).2 (g' : Int) ((HM1.out g').2 ⟨g', rfl, z⟩)
      omega⟩
    have hg4 : g < 4096 := HSA.out.fr hr.1
    have HFR : Hid (∃ i, i < pn u ∧ (mk g).testBit i = false) := lp_some (HSA.out.ml g) hr.2
    have d0 : decide (0 < l1.length) = true := by simp only [decide_eq_true_eq]; exact h0
    obtain ⟨WA, hWA⟩ : ∃ WA, w1 = WA := ⟨_, rfl⟩
    rw [hWA] at HSA HPA HB1 ⊢
    have HK0 : Hid (Kp (fun x => F x ∨ x = b) (fun x => F x ∨ x = b) w WA) := below_kp HB1.out
    have FIN : Hid (∀ i, LP u (mk g) i → TkS P u us mk (256 * g + i * sz u) 0 us (put mk g (mk g ||| 2 ^ i))) := fun i hi => Or.inl ⟨g, i, HRM.out, hi, rfl, rfl, rfl, rfl⟩
    have d1' := d1
    have d2' := d2
    clear hWA hle HM1 hr
    have CF : Hid (Calls _ _ _ _ _) := free_s HSA.out g hg4
    go_wp2_with fail
    refine CF.out.mono ?_
    rintro e w3 ⟨v3, l3, rfl, hI3, hl3, hm3, hb3⟩
    have HSB : Hid (Sl w3 s b p u mk) := HSA.out.below hb3
    have HM3 : Hid (∀ x : Int, x ∈ l3 ↔ ∃ i : Nat, x = i ∧ i < pn u ∧ (mk g).testBit i = false) := hm3
    have HB3 : Hid (Below WA.heap.size WA w3) := hb3
    have CL3 : Hid (Calls _ _ _ _ _) := least_is hI3 (by omega)
    have hl3p : 0 < l3.length := by
      obtain ⟨i, hi1, hi2⟩ := HFR.out
      exact List.length_pos_of_mem ((hm3 i).2 ⟨i, rfl, hi1, hi2⟩)
    clear hI3 hm3 hb3 CF
    go_wp2_with fail
    refine CL3.out.mono ?_
    rintro e w4 ⟨m4, rfl, hle, hw4⟩
    obtain rfl := hw4.symm
    obtain ⟨i, rfl, hi1, hi2⟩ := (HM3.out m4).1 (hle hl3p).1
    have HLP : Hid (LP u (mk g) i) := ⟨hi1, hi2, fun j hj => by
      cases q : (mk g).testBit j with
      | true => rfl
      | false =>
        have := (hle hl3p).2 (j : Int) ((HM3.out j).2 ⟨j, rfl, by omega, q⟩)
        omega⟩
    have hi16 : i < 16 := Nat.lt_of_lt_of_le hi1 (pn_le u).2
    clear hle hw4 CL3 HM3 hi2 hl3
    have hx : mk g < 65536 := Nat.lt_of_lt_of_le (HSB.out.ml g) (two_pn u)
    have hlk : (Instr.lookup 122 (.map (some b)) (.int .i64 g) false).run Tryz.prog w3 = .ok (.int .u16 (mk g : Nat)) w3 := HSB.out.look g (by omega)
    have hlk2 : (Instr.lookup 122 (.map (some b)) (.int .i64 g) false).run Tryz.prog w3.drew = .ok (.int .u16 (mk g : Nat)) w3.drew := (HSB.out.below (below_of (grown_drew w3 none) _ (Nat.le_refl _) (by simp))).look g (by omega)
    have hsh := shl_u16 hi16
    have hpw : 2 ^ i < 65536 := Nat.lt_of_lt_of_le (Nat.pow_lt_pow_right (by omega) hi16) (by decide)
    have hor : bits .or .u16 ((mk g : Nat) : Int) ((2 ^ i : Nat) : Int) = ((mk g ||| 2 ^ i : Nat) : Int) := u16_or_nat _ _ hx hpw
    obtain ⟨w5, hst, hs5, hg5⟩ := Sl.store (HSB.out.below (below_of (grown_drew w3 none) _ (Nat.le_refl _) (by simp))) g hg4 (mk g ||| 2 ^ i) or_ne (Nat.or_lt_two_pow (HSB.out.ml g) (Nat.pow_lt_pow_right (by omega) hi1))
    have HS5 : Hid (Sl w5 s b p u (put mk g (mk g ||| 2 ^ i))) := hs5
    have HG5 : Hid (w3.grownBy w5 (some b)) := (grown_drew w3 (some b)).trans hg5
    have CAD : Hid (Calls _ _ _ _ _) := address_s hs5 g i hg4 hi1
    have hc3 := HSB.out.c3
    obtain ⟨x, hxe⟩ : ∃ x, mk g = x := ⟨_, rfl⟩
    obtain ⟨pw, hpe⟩ : ∃ pw, 2 ^ i = pw := ⟨_, rfl⟩
    obtain ⟨y, hye⟩ : ∃ y, mk g ||| 2 ^ i = y := ⟨_, rfl⟩
    have HYE : Hid (mk g ||| 2 ^ i = y) := hye
    rw [hye] at hst hor HS5
    rw [hpe] at hsh hor
    rw [hxe] at hlk hlk2 hor
    clear hxe hpe hye hs5 hg5 hx hpw
    go_wp2
    go_big_region
    go_wp2_with fail
    refine CAD.out.mono ?_
    rintro e w6 ⟨rfl, hw6⟩
    obtain rfl := hw6.symm
    clear hw6 CAD hlk hlk2 hst
    go_wp2
    go_ret2
    refine ⟨256 * g + i * sz u, 0, _, _, _, rfl, FIN.out i HLP.out, HPA.out.of_eq (Nat.le_trans HB3.out.size HG5.out.size) (fun k hk => ?_), by rw [HYE.out]; exact HS5.out, d1', d2', kp_tail HK0.out HB3.out HG5.out (Or.inr rfl)⟩
    have hlt := HPA.out.lt k hk
    exact (HG5.out.block k (Nat.lt_of_lt_of_le hlt HB3.out.size) (some_ne (fun q => d2' (q ▸ hk)))).trans (HB3.out.block k hlt)
  · have hl0 : l1 = [] := List.eq_nil_of_length_eq_zero (by omega)
    have d0 : decide (0 < l1.length) = false := by simp only [decide_eq_false_iff_not]; exact h0
    have HNR : Hid (∀ g, ¬ rmy u mk g) := fun g z => by
      have := (HM1.out g).2 ⟨g, rfl, z⟩
      rw [hl0] at this
      cases this
    have CT : Hid (∀ W, Below w1.heap.size w1 W → Calls Tryz.prog 114 #[.pointer (some ⟨p, 0, none⟩), .int .u8 u] W fun x w' => ∃ (g e : Nat) (us' : Us) (F' : Nat → Prop), x = .returned (.tuple #[.int .i64 g, .int .i64 e]) ∧ Tko P us u g e us' ∧ Po w' F' p P us' ∧ Kp F F' W w') := fun W hW => Take_use (HPA.out.below hW) u (by omega) (by omega)
    have c0 := HSA.out.c0
    have c1 := HSA.out.c1
    have HLT : Hid (s < w1.heap.size ∧ b < w1.heap.size) := ⟨HSA.out.lt, HSA.out.mp.lt⟩
    have HC : Hid (∀ W w' F', Below w1.heap.size w1 W → Kp F F' W w' → Sl w' s b p u mk) := fun W w' F' hW hK => (HSA.out.below hW).kp hK d1 d2
    clear hle HM1 hl0
    go_wp2
    go_region_held3 (fun W => W.cell? ⟨s, 0, none⟩ = some (.pointer (some ⟨p, 0, none⟩)) ∧ W.cell? ⟨s, 1, none⟩ = some (.int .u8 u))
      (first | exact ⟨c0, c1⟩ | exact HS1.out)
      ((go_at_call 114; refine (CT.out _ (by first | exact (Below.refl _ _).drew | exact Below.refl _ _)).mono ?_; rintro e WA ⟨g, er, us', F', rfl, hT, hP2, hK2⟩; have HSA2 : Hid (Sl WA s b p u mk) := HC.out _ _ _ (by first | exact (Below.refl _ _).drew | exact Below.refl _ _) hK2; have HS1 : Hid (WA.cell? ⟨s, 0, none⟩ = some (.pointer (some ⟨p, 0, none⟩)) ∧ WA.cell? ⟨s, 1, none⟩ = some (.int .u8 u)) := ⟨HSA2.out.c0, HSA2.out.c1⟩; have HK2 : Hid (Kp F F' w1 WA) := (below_kp (by first | exact (Below.refl _ _).drew | exact Below.refl _ _)).trans hK2; have HT : Hid (Tko P us u g er us') := hT; have HPA2 : Hid (Po WA F' p P us') := hP2; clear hT hP2 hK2))
    clear HS1 c0 c1 CT HC HSA HPA
    have HSA := HSA2
    have HPA := HPA2
    clear HSA2 HPA2
    have HK0 : Hid (Kp (fun x => F x ∨ x = b) (fun x => F' x ∨ x = b) w WA) := (below_kp HB1.out).trans (kp_plus HK2.out b)
    have d1' : ¬ F' s := kp_out HK2.out HLT.out.1 d1
    have d2' : ¬ F' b := kp_out HK2.out HLT.out.2 d2
    by_cases hz : er = 0
    · subst hz
      obtain ⟨x0, t1, t2, t3⟩ := (HT.out.resolve_right (fun z => by cases z.1)).2.1
      have HOK : Hid P.Ok := HPA.out.ok
      have hgn : us g = none := by rw [t2]; exact (opn_iff.1 t1.open).2
      have hg4 : g < 4096 := by rw [t2]; exact fm_lt HOK.out (best_lt HOK.out us) (opn_iff.1 t1.open).1
      have hmg : mk g = 0 := by
        by_cases q : mk g = 0
        · exact q
        · have := lk g q
          rw [hgn] at this
          cases this
      have hpn1 := (pn_le u).1
      have HFR : Hid (∃ i, i < pn u ∧ (mk g).testBit i = false) := ⟨0, by omega, by rw [hmg]; simp⟩
      have FIN : Hid (∀ i, LP u (mk g) i → TkS P u us mk (256 * g + i * sz u) 0 us' (put mk g (mk g ||| 2 ^ i))) := fun i hi => by
        obtain rfl : i = 0 := hi.uniq ⟨by omega, by rw [hmg]; simp, fun j hj => by omega⟩
        refine Or.inr ⟨HNR.out, g, HT.out, Or.inl ⟨rfl, by omega, ?_⟩⟩
        rw [hmg]
        rfl
      clear t1 t2 t3 hgn hmg
      have CF : Hid (Calls _ _ _ _ _) := free_s HSA.out g hg4
      go_wp2_with fail
      refine CF.out.mono ?_
      rintro e w3 ⟨v3, l3, rfl, hI3, hl3, hm3, hb3⟩
      have HSB : Hid (Sl w3 s b p u mk) := HSA.out.below hb3
      have HM3 : Hid (∀ x : Int, x ∈ l3 ↔ ∃ i : Nat, x = i ∧ i < pn u ∧ (mk g).testBit i = false) := hm3
      have HB3 : Hid (Below WA.heap.size WA w3) := hb3
      have CL3 : Hid (Calls _ _ _ _ _) := least_is hI3 (by omega)
      have hl3p : 0 < l3.length := by
        obtain ⟨i, hi1, hi2⟩ := HFR.out
        exact List.length_pos_of_mem ((hm3 i).2 ⟨i, rfl, hi1, hi2⟩)
      clear hI3 hm3 hb3 CF
      go_wp2_with fail
      refine CL3.out.mono ?_
      rintro e w4 ⟨m4, rfl, hle, hw4⟩
      obtain rfl := hw4.symm
      obtain ⟨i, rfl, hi1, hi2⟩ := (HM3.out m4).1 (hle hl3p).1
      have HLP : Hid (LP u (mk g) i) := ⟨hi1, hi2, fun j hj => by
        cases q : (mk g).testBit j with
        | true => rfl
        | false =>
          have := (hle hl3p).2 (j : Int) ((HM3.out j).2 ⟨j, rfl, by omega, q⟩)
          omega⟩
      have hi16 : i < 16 := Nat.lt_of_lt_of_le hi1 (pn_le u).2
      clear hle hw4 CL3 HM3 hi2 hl3
      have hx : mk g < 65536 := Nat.lt_of_lt_of_le (HSB.out.ml g) (two_pn u)
      have hlk : (Instr.lookup 122 (.map (some b)) (.int .i64 g) false).run Tryz.prog w3 = .ok (.int .u16 (mk g : Nat)) w3 := HSB.out.look g (by omega)
      have hlk2 : (Instr.lookup 122 (.map (some b)) (.int .i64 g) false).run Tryz.prog w3.drew = .ok (.int .u16 (mk g : Nat)) w3.drew := (HSB.out.below (below_of (grown_drew w3 none) _ (Nat.le_refl _) (by simp))).look g (by omega)
      have hsh := shl_u16 hi16
      have hpw : 2 ^ i < 65536 := Nat.lt_of_lt_of_le (Nat.pow_lt_pow_right (by omega) hi16) (by decide)
      have hor : bits .or .u16 ((mk g : Nat) : Int) ((2 ^ i : Nat) : Int) = ((mk g ||| 2 ^ i : Nat) : Int) := u16_or_nat _ _ hx hpw
      obtain ⟨w5, hst, hs5, hg5⟩ := Sl.store (HSB.out.below (below_of (grown_drew w3 none) _ (Nat.le_refl _) (by simp))) g hg4 (mk g ||| 2 ^ i) or_ne (Nat.or_lt_two_pow (HSB.out.ml g) (Nat.pow_lt_pow_right (by omega) hi1))
      have HS5 : Hid (Sl w5 s b p u (put mk g (mk g ||| 2 ^ i))) := hs5
      have HG5 : Hid (w3.grownBy w5 (some b)) := (grown_drew w3 (some b)).trans hg5
      have CAD : Hid (Calls _ _ _ _ _) := address_s hs5 g i hg4 hi1
      have hc3 := HSB.out.c3
      obtain ⟨x, hxe⟩ : ∃ x, mk g = x := ⟨_, rfl⟩
      obtain ⟨pw, hpe⟩ : ∃ pw, 2 ^ i = pw := ⟨_, rfl⟩
      obtain ⟨y, hye⟩ : ∃ y, mk g ||| 2 ^ i = y := ⟨_, rfl⟩
      have HYE : Hid (mk g ||| 2 ^ i = y) := hye
      rw [hye] at hst hor HS5
      rw [hpe] at hsh hor
      rw [hxe] at hlk hlk2 hor
      clear hxe hpe hye hs5 hg5 hx hpw
      go_wp2
      go_big_region
      go_wp2_with fail
      refine CAD.out.mono ?_
      rintro e w6 ⟨rfl, hw6⟩
      obtain rfl := hw6.symm
      clear hw6 CAD hlk hlk2 hst
      go_wp2
      go_ret2
      refine ⟨256 * g + i * sz u, 0, _, _, _, rfl, FIN.out i HLP.out, HPA.out.of_eq (Nat.le_trans HB3.out.size HG5.out.size) (fun k hk => ?_), by rw [HYE.out]; exact HS5.out, d1', d2', kp_tail HK0.out HB3.out HG5.out (Or.inr rfl)⟩
      have hlt := HPA.out.lt k hk
      exact (HG5.out.block k (Nat.lt_of_lt_of_le hlt HB3.out.size) (some_ne (fun q => d2' (q ▸ hk)))).trans (HB3.out.block k hlt)
    · have hzI : ¬ (er : Int) = 0 := by omega
      have hzB : ((er : Int) == 0) = false := by simp; omega
      have hzN : ((er : Int) != 0) = true := by simp; omega
      go_wp2
      go_ret2
      refine ⟨0, er, us', mk, F', rfl, Or.inr ⟨HNR.out, g, HT.out, Or.inr ⟨hz, rfl, rfl⟩⟩, ?_, ?_, d1', d2', ?_⟩
      · exact HPA.out
      · exact HSA.out
      · exact HK0.out
end Go.Proofs.YtkbpnkjjmipjfaaGreat.P
namespace Go.Proofs.YtkbpnkjjmipjfaaGreat.P
open B Go.ChangeShapes Go.WideShapes Go.ChangeAt Go.RowKit
set_option linter.unusedVariables false
set_option maxRecDepth 8192

theorem Mw.look_plain {w : World} {b N : Nat} {m : Nat → Option Nat} (h : Mw w b N m) (hN : N ≤ 4096) {j u : Nat} (e : m j = some u) :
    (Instr.lookup 122 (.map (some b)) (.int .i64 j) false).run Tryz.prog w = .ok (.int .u16 u) w := by
  obtain ⟨D, ho, v⟩ := h
  have hj := (v.lt j u e).1
  obtain ⟨x, ps, hr, hx⟩ := ho.lookup keyed Tryz.underlying122 (z := .int .u16 0) ((zero_of_info Tryz.zeroW).1 w) (zd := .held (.int .u16 0)) (zp := []) rfl (key_at j (by omega))
  rw [v.at' j u e] at hx
  simp [Rv, wv] at hx
  rw [hr, hx.1]
theorem hit_lt {w : World} {s b p u : Nat} {mk : Ms} (hs : Sl w s b p u mk) {a g i : Nat} (h : Hit u mk a g i) : g < 4096 ∧ a / 256 = g ∧ a % 256 = i * sz u := by
  have h1 := place_lt h.1
  have hz := sz_le u
  have hg : g < 4096 := hs.fr (fun z => by have := h.2.2; rw [z] at this; simp at this)
  have := h.2.1
  exact ⟨hg, by omega, by omega⟩
theorem SGive_not {w : World} {s b p u : Nat} {mk : Ms} (hs : Sl w s b p u mk) (a : Nat) (ha : a < 18446744073709551616) (hn : ∀ g i, ¬ Hit u mk a g i) : Calls Tryz.prog 82 #[.pointer (some ⟨s, 0, none⟩), .int .u64 a] w fun e w' => e = .returned (.int .i64 91) ∧ w' = w := by
  have C1 : Hid (Calls _ _ _ _ _) := smade_s hs
  have c2 := hs.c2
  have c3 := hs.c3
  have hz := sz_le u
  have hps := pn_sz u
  have hp16 := pn_le u
  by_cases hbig : 1048576 ≤ a
  · have CF : Hid (Calls _ _ _ _ _) := A.Frame_no (a : Int) (by omega) (by omega) w
    have hq : ((0 : Int)).tdiv (sz u : Int) = 0 := by simp
    have hz0 : ¬ (sz u : Int) = 0 := by omega
    clear hs hn hps hp16
    generalize sz u = d at *
    go_enter Tryz.func82, Tryz.ntmps82
    go_wp2_with (first | (go_at_call 111; refine C1.out.mono ?_; rintro e w' ⟨rfl, h⟩; obtain rfl := h.symm) | (go_at_call 119; refine CF.out.mono ?_; rintro e w' ⟨rfl, h⟩; obtain rfl := h.symm))
    go_ret
    exact ⟨rfl, rfl⟩
  · have CF : Hid (Calls Tryz.prog 119 #[.int .u64 (a : Nat)] w fun e w' => e = .returned (.tuple #[.int .i64 (a / 256 : Nat), .int .i64 (a % 256 : Nat), .int .i64 0]) ∧ w' = w) := by
      have := A.Frame_ok (a : Int) (by omega) (by omega) w
      rw [show (a : Int) / 256 = ((a / 256 : Nat) : Int) by omega, show (a : Int) % 256 = ((a % 256 : Nat) : Int) by omega] at this
      exact this
    have hlk := hs.look (a / 256) (by omega)
    have hml : mk (a / 256) < 65536 := Nat.lt_of_lt_of_le (hs.ml _) (two_pn u)
    have hi : a % 256 / sz u < pn u := by
      rw [Nat.div_lt_iff_lt_mul (by omega), hps]
      omega
    have hoff : a % 256 % sz u ≠ 0 ∨ (a % 256 % sz u = 0 ∧ (mk (a / 256)).testBit (a % 256 / sz u) = false) := by
      by_cases q : a % 256 % sz u = 0
      · right
        refine ⟨q, ?_⟩
        cases z : (mk (a / 256)).testBit (a % 256 / sz u) with
        | false => rfl
        | true =>
          refine absurd ⟨hi, ?_, z⟩ (hn (a / 256) (a % 256 / sz u))
          have := Nat.div_add_mod (a % 256) (sz u)
          rw [q, Nat.mul_comm] at this
          omega
      · exact Or.inl q
    have e1 : (((a % 256 : Nat)) : Int).tdiv (sz u : Int) = ((a % 256 / sz u : Nat) : Int) := by rw [Int.tdiv_eq_ediv_of_nonneg (by omega)]; simp
    have e2 : (((a % 256 : Nat)) : Int).tmod (sz u : Int) = ((a % 256 % sz u : Nat) : Int) := by rw [Int.tmod_eq_emod_of_nonneg (by omega)]; simp
    have hz0 : ¬ (sz u : Int) = 0 := by omega
    have hsh := shl_u16 (i := a % 256 / sz u) (by omega)
    have hab := and_bit (x := mk (a / 256)) (i := a % 256 / sz u) hml (by omega)
    have hr : a % 256 % sz u < sz u := Nat.mod_lt _ (by omega)
    have ho : a % 256 < 256 := by omega
    clear hs hn hps
    generalize a % 256 / sz u = i at *
    generalize a % 256 % sz u = r at *
    generalize sz u = d at *
    generalize a % 256 = o at *
    generalize a / 256 = g at *
    generalize mk g = x at *
    generalize 2 ^ i = pw at *
    rcases hoff with hr0 | ⟨rfl, hb⟩
    · have hrI : ¬ (r : Int) = 0 := by omega
      have hrB : ((r : Int) != 0) = true := by simp; omega
      clear hab hlk
      go_enter Tryz.func82, Tryz.ntmps82
      go_wp2_with (first | (go_at_call 111; refine C1.out.mono ?_; rintro e w' ⟨rfl, h⟩; obtain rfl := h.symm) | (go_at_call 119; refine CF.out.mono ?_; rintro e w' ⟨rfl, h⟩; obtain rfl := h.symm))
      go_ret
      exact ⟨rfl, rfl⟩
    · rw [hb] at hab
      simp only [Bool.false_eq_true, if_false] at hab
      clear hb
      go_enter Tryz.func82, Tryz.ntmps82
      go_wp2_with (first | (go_at_call 111; refine C1.out.mono ?_; rintro e w' ⟨rfl, h⟩; obtain rfl := h.symm) | (go_at_call 119; refine CF.out.mono ?_; rintro e w' ⟨rfl, h⟩; obtain rfl := h.symm))
      go_ret
      exact ⟨rfl, rfl⟩
theorem wpList_delete_w {w : World} {ops : Array Oper} {rest : List Oper} {o : Oper} {a : Act} {Q : Exit → Act → World → Prop} {R : World → Prop} (hgd : o.guard = none) (s x : Operand)
    (ho : o.op = .call { callee := .builtin .delete, args := #[s, x], argTypes := #[122, 3] }) (vs vx : Value) (hs : a.eval s = vs) (hx : a.eval x = vx)
    (hr : ∃ w', (Builtin.delete_ #[122, 3] o.type #[vs, vx]).run Tryz.prog w = .ok (.tuple #[]) w' ∧ R w') (h : ∀ w', R w' → wpList Tryz.prog ops Q rest (a.put o.dst (.tuple #[])) w') : wpList Tryz.prog ops Q (o :: rest) a w := by
  refine wpList_plain hgd fun K hK => ?_
  obtain ⟨w', hr, hR⟩ := hr
  unfold Oper.wp
  simp [execOp, ho, resolve, invoke, builtin, hs, hx, hr, Result.andThen]
  exact hK _ _ (h w' hR)
theorem kp_grown {F : Nat → Prop} {w w' : World} {b : Nat} (h : w.grownBy w' (some b)) : Kp (fun x => F x ∨ x = b) (fun x => F x ∨ x = b) w w' :=
  ⟨h.os, h.tape, h.output, h.size, fun k hk hn => h.block k hk (some_ne (fun z => hn (Or.inr z))), fun _ z => Or.inl z⟩
set_option maxHeartbeats 2000000 in
theorem SGive_hit {w : World} {F : Nat → Prop} {p : Nat} {P : Par} {us : Us} {s b u : Nat} {mk : Ms} (hp : Po w F p P us) (hs : Sl w s b p u mk) (d1 : ¬ F s) (d2 : ¬ F b) (lk : Lk u us mk) {a g i : Nat} (hh : Hit u mk a g i) :
    Calls Tryz.prog 82 #[.pointer (some ⟨s, 0, none⟩), .int .u64 a] w fun x w' => ∃ F', x = .returned (.int .i64 0) ∧ Po w' F' p P (if clr (mk g) i = 0 then pt us g none else us) ∧ Sl w' s b p u (put mk g (clr (mk g) i)) ∧ ¬ F' s ∧ ¬ F' b ∧ Kp (fun x => F x ∨ x = b) (fun x => F' x ∨ x = b) w w' := by
  obtain ⟨hg4, hq1, hq2⟩ := hit_lt hs hh
  have hi16 : i < 16 := Nat.lt_of_lt_of_le hh.1 (pn_le u).2
  have hz := sz_le u
  have hpl := place_lt hh.1
  have ha : a < 1048576 := by have := hh.2.1; omega
  have hmg : mk g ≠ 0 := fun z => by have := hh.2.2; rw [z] at this; simp at this
  have hus := lk g hmg
  have hu := hs.u4
  have hml : mk g < 65536 := Nat.lt_of_lt_of_le (hs.ml _) (two_pn u)
  have C1 : Hid (Calls _ _ _ _ _) := smade_s hs
  have CF : Hid (Calls Tryz.prog 119 #[.int .u64 (a : Nat)] w fun e w' => e = .returned (.tuple #[.int .i64 (g : Nat), .int .i64 (i * sz u : Nat), .int .i64 0]) ∧ w' = w) := by
    have := A.Frame_ok (a : Int) (by omega) (by omega) w
    rw [show (a : Int) / 256 = (g : Int) by omega, show (a : Int) % 256 = ((i * sz u : Nat) : Int) by omega] at this
    exact this
  have c2 := hs.c2
  have c3 := hs.c3
  have c0 := hs.c0
  have hlk := hs.look g (by omega)
  have e1 : ((i * sz u : Nat) : Int).tdiv (sz u : Int) = (i : Int) := by
    rw [Int.tdiv_eq_ediv_of_nonneg (by omega)]
    have := Nat.mul_div_cancel i (show 0 < sz u by omega)
    omega
  have e2 : ((i * sz u : Nat) : Int).tmod (sz u : Int) = 0 := by
    rw [Int.tmod_eq_emod_of_nonneg (by omega)]
    have := Nat.mul_mod_left i (sz u)
    omega
  have hz0 : ¬ (sz u : Int) = 0 := by omega
  have hsh := shl_u16 hi16
  have hab := and_bit hml hi16
  rw [hh.2.2] at hab
  simp only [if_true] at hab
  have hpw : 2 ^ i < 65536 := Nat.lt_of_lt_of_le (Nat.pow_lt_pow_right (by omega) hi16) (by decide)
  have hpos : 0 < 2 ^ i := Nat.two_pow_pos i
  have hnot : bits .andNot .u16 ((mk g : Nat) : Int) ((2 ^ i : Nat) : Int) = ((clr (mk g) i : Nat) : Int) := u16_andNot_nat _ _ hml hpw
  have hcl : clr (mk g) i < 2 ^ pn u := Nat.lt_of_le_of_lt (clr_le _ _) (hs.ml g)
  by_cases hy0 : clr (mk g) i = 0
  · rw [if_pos hy0]
    rw [hy0] at hnot
    obtain ⟨w1, hst, hm1, hg1⟩ := hs.mp.store (Nat.le_refl _) g hg4 0 (by omega)
    have hst : (Instr.mapUpdate 122 (.map (some b)) (.int .i64 g) (.int .u16 0)).run Tryz.prog w = .ok () w1 := hst
    have hl1 : (Instr.lookup 122 (.map (some b)) (.int .i64 g) false).run Tryz.prog w1 = .ok (.int .u16 0) w1 := hm1.look_plain (Nat.le_refl _) (j := g) (u := 0) (by simp [pt])
    have hnot : bits .andNot .u16 ((mk g : Nat) : Int) ((2 ^ i : Nat) : Int) = 0 := hnot
    have e1s : w1.heap[s]? = w.heap[s]? := hg1.block s hs.lt (some_ne hs.ne)
    have c31 : w1.cell? ⟨s, 3, none⟩ = some (.map (some b)) := (World.cell?_of_block (w := w) (w' := w1) (a := ⟨s, 3, none⟩) e1s).trans c3
    have HDR : Hid (∀ ty, ∃ w', (Builtin.delete_ #[122, 3] ty #[.map (some b), .int .i64 g]).run Tryz.prog w1 = .ok (.tuple #[]) w' ∧ Mw w' b 4096 (pt (pt (om mk) g (some 0)) g none) ∧ w1.grownBy w' (some b)) := fun ty => hm1.drop g (by omega) ty
    have HW2 : Hid (∀ w2, Mw w2 b 4096 (pt (pt (om mk) g (some 0)) g none) → w1.grownBy w2 (some b) → Sl w2 s b p u (put mk g (clr (mk g) i)) ∧ Po w2 F p P us ∧ w.grownBy w2 (some b)) := fun w2 hm2 hg2 => by
      have hg : w.grownBy w2 (some b) := hg1.trans hg2
      refine ⟨hs.turned hg ?_ (fun z => ?_), hp.of_eq hg.size (fun k hk => hg.block k (hp.lt k hk) (some_ne (fun q => d2 (q ▸ hk)))), hg⟩
      · rw [hy0, om_del]
        have : pt (pt (om mk) g (some 0)) g none = pt (om mk) g none := by
          funext z
          unfold pt
          split <;> rfl
        rw [this] at hm2
        exact hm2
      · by_cases q : z = g
        · subst q; rw [put_same]; exact hcl
        · rw [put_other _ _ _ _ q]; exact hs.ml z
    have HLT : Hid (s < w.heap.size ∧ b < w.heap.size) := ⟨hs.lt, hs.mp.lt⟩
    clear hp hs lk hh hy0 hm1 hg1 hcl hpl e1s hml
    obtain ⟨x, hx⟩ : ∃ x, mk g = x := ⟨_, rfl⟩
    rw [hx] at hlk hab hnot
    clear hx
    generalize i * sz u = o at *
    generalize sz u = d at *
    generalize 2 ^ i = pw at *
    have hpwI : ¬ (pw : Int) = 0 := by omega
    have hpwB : ((pw : Int) == 0) = false := by simp; omega
    go_enter Tryz.func82, Tryz.ntmps82
    go_wp2_with (first | (go_at_call 111; refine C1.out.mono ?_; rintro e w' ⟨rfl, h⟩; obtain rfl := h.symm) | (go_at_call 119; refine CF.out.mono ?_; rintro e w' ⟨rfl, h⟩; obtain rfl := h.symm) | (at_delete; refine wpList_delete_w rfl (.tmp 65) (.tmp 66) rfl _ _ rfl rfl (HDR.out _) ?_; rintro w2 ⟨hm2, hg2⟩; have HS2 : Hid (Sl w2 s b p u (put mk g (clr (mk g) i)) ∧ Po w2 F p P us ∧ w.grownBy w2 (some b)) := HW2.out w2 hm2 hg2; have c02 := HS2.out.1.c0; clear hm2 hg2))
    refine (Give_p HS2.out.2.1 g u hus (by omega)).mono ?_
    rintro e w3 ⟨F', rfl, hP3, hK3⟩
    have HP3 : Hid (Po w3 F' p P (pt us g none)) := hP3
    have HS3 : Hid (Sl w3 s b p u (put mk g (clr (mk g) i))) := HS2.out.1.kp hK3 d1 d2
    have HK3 : Hid (Kp (fun x => F x ∨ x = b) (fun x => F' x ∨ x = b) w w3) := (kp_grown HS2.out.2.2).trans (kp_plus hK3 b)
    have D1 : Hid (¬ F' s ∧ ¬ F' b) := ⟨kp_out hK3 (Nat.lt_of_lt_of_le HLT.out.1 HS2.out.2.2.size) d1, kp_out hK3 (Nat.lt_of_lt_of_le HLT.out.2 HS2.out.2.2.size) d2⟩
    clear hP3 hK3 HS2 c02
    go_wp2
    go_ret
    exact ⟨F', rfl, HP3.out, HS3.out, D1.out.1, D1.out.2, HK3.out⟩
  · rw [if_neg hy0]
    obtain ⟨w1, hst, hs1, hg1⟩ := hs.store g hg4 (clr (mk g) i) hy0 hcl
    have hl1 := hs1.look g (by omega)
    rw [put_same] at hl1
    have c31 := hs1.c3
    have HS1 : Hid (Sl w1 s b p u (put mk g (clr (mk g) i))) := hs1
    have HP1 : Hid (Po w1 F p P us) := hp.of_eq hg1.size (fun k hk => hg1.block k (hp.lt k hk) (some_ne (fun q => d2 (q ▸ hk))))
    have HG1 : Hid (w.grownBy w1 (some b)) := hg1
    clear hp hs lk hh hs1 hg1 hcl hpl hml
    obtain ⟨x, hx⟩ : ∃ x, mk g = x := ⟨_, rfl⟩
    obtain ⟨y, hy⟩ : ∃ y, clr (mk g) i = y := ⟨_, rfl⟩
    have HY : Hid (clr (mk g) i = y) := hy
    rw [hy] at hst hl1 hnot hy0
    rw [hx] at hlk hab hnot
    clear hx hy
    generalize i * sz u = o at *
    generalize sz u = d at *
    generalize 2 ^ i = pw at *
    have hpwI : ¬ (pw : Int) = 0 := by omega
    have hpwB : ((pw : Int) == 0) = false := by simp; omega
    have hyI : ¬ (y : Int) = 0 := by omega
    have hyB : ((y : Int) == 0) = false := by simp; omega
    go_enter Tryz.func82, Tryz.ntmps82
    go_wp2_with (first | (go_at_call 111; refine C1.out.mono ?_; rintro e w' ⟨rfl, h⟩; obtain rfl := h.symm) | (go_at_call 119; refine CF.out.mono ?_; rintro e w' ⟨rfl, h⟩; obtain rfl := h.symm))
    go_ret
    exact ⟨F, rfl, HP1.out, HS1.out, d1, d2, kp_grown HG1.out⟩
theorem SGive_s {w : World} {F : Nat → Prop} {p : Nat} {P : Par} {us : Us} {s b u : Nat} {mk : Ms} (hp : Po w F p P us) (hs : Sl w s b p u mk) (d1 : ¬ F s) (d2 : ¬ F b) (lk : Lk u us mk) {a e : Nat} {us' : Us} {mk' : Ms} (ha : a < 18446744073709551616) (h : GvS u us mk a e us' mk') :
    Calls Tryz.prog 82 #[.pointer (some ⟨s, 0, none⟩), .int .u64 a] w fun x w' => ∃ F', x = .returned (.int .i64 e) ∧ Po w' F' p P us' ∧ Sl w' s b p u mk' ∧ ¬ F' s ∧ ¬ F' b ∧ Kp (fun x => F x ∨ x = b) (fun x => F' x ∨ x = b) w w' := by
  rcases h with ⟨g, i, h1, rfl, rfl, rfl⟩ | ⟨h0, rfl, rfl, rfl⟩
  · exact SGive_hit hp hs d1 d2 lk h1
  · refine (SGive_not hs a ha h0).mono ?_
    rintro x w' ⟨rfl, rfl⟩
    exact ⟨F, rfl, hp, hs, d1, d2, Kp.refl _ _⟩
theorem poolMade_p {w : World} {F : Nat → Prop} {p : Nat} {P : Par} {us : Us} (h : Po w F p P us) : Calls Tryz.prog 48 #[.pointer (some ⟨p, 0, none⟩)] w fun e w' => e = .returned (.bool true) ∧ w' = w := by
  have C : Hid (Calls _ _ _ _ _) := Give_none h (-1) (by omega) (by omega) (fun g hg => by omega)
  clear h
  go_enter Tryz.func48, Tryz.ntmps48
  go_wp2_with (go_at_call 98; refine C.out.mono ?_; rintro e w' ⟨rfl, h⟩; obtain rfl := h.symm)
  go_ret
  exact ⟨rfl, rfl⟩
theorem sizeOf_ok {u : Nat} (hu : 4 ≤ u ∧ u ≤ 6) (w : World) : Calls Tryz.prog 49 #[.int .u8 u] w fun e w' => e = .returned (.int .i64 (sz u : Nat)) ∧ w' = w := by
  rcases use3 hu with rfl | rfl | rfl
  all_goals
    go_enter Tryz.func49, Tryz.ntmps49
    go_wp2
    go_ret
    exact ⟨rfl, rfl⟩
theorem SNew_s {w : World} {F : Nat → Prop} {p : Nat} {P : Par} {us : Us} (h : Po w F p P us) {u : Nat} (hu : 4 ≤ u ∧ u ≤ 6) : Calls Tryz.prog 11 #[.pointer (some ⟨p, 0, none⟩), .int .u8 u] w fun e w' => ∃ s b, e = .returned (.tuple #[.pointer (some ⟨s, 0, none⟩), .int .i64 0]) ∧ Sl w' s b p u (fun _ => 0) ∧ w.heap.size ≤ s ∧ w.heap.size ≤ b ∧ Below w.heap.size w w' := by
  have C : Hid (Calls _ _ _ _ _) := poolMade_p h
  have C2 : Hid (Calls _ _ _ _ _) := sizeOf_ok hu w
  have hs := sz_le u
  have hz : ((sz u : Int) == 0) = false := by simp; omega
  have hz2 : ¬ (sz u : Int) = 0 := by omega
  have FIN : Hid (Sl ((w.alloc (.map #[] 0)).alloc (.cells #[.pointer (some ⟨p, 0, none⟩), .int .u8 u, .int .i64 (sz u : Nat), .map (some w.heap.size)] 124)) (w.alloc (.map #[] 0)).heap.size w.heap.size p u (fun _ => 0)) := by
    have hb := heap_alloc_last (w.alloc (.map #[] 0)) (.cells #[.pointer (some ⟨p, 0, none⟩), .int .u8 u, .int .i64 (sz u : Nat), .map (some w.heap.size)] 124)
    have hc := fun i => cell_of_row _ (w.alloc (.map #[] 0)).heap.size i _ 124 (0, 0) hb
    have hsz : (w.alloc (.map #[] 0)).heap.size = w.heap.size + 1 := by simp
    have hm := mw_new w 4096
    refine ⟨hu, (Array.getElem?_eq_some_iff.1 hb).1, by rw [hc]; rfl, by rw [hc]; rfl, by rw [hc]; rfl, by rw [hc]; rfl, ?_, by omega, fun g => Nat.two_pow_pos _⟩
    have : om (fun _ => 0) = fun _ => none := by funext z; simp [om]
    rw [this]
    exact hm.kept (World.grownBy_alloc _ _ none) (by simp)
  have HB : Hid (Below w.heap.size w ((w.alloc (.map #[] 0)).alloc (.cells #[.pointer (some ⟨p, 0, none⟩), .int .u8 u, .int .i64 (sz u : Nat), .map (some w.heap.size)] 124))) := ((Below.refl _ w).alloc (Nat.le_refl _) _).alloc (by simp) _
  clear h hu
  generalize sz u = d at *
  have hmm := @run_makeMap Tryz.prog
  go_enter Tryz.func11, Tryz.ntmps11
  go_wp2_with (first | (go_at_call 48; refine C.out.mono ?_; rintro e w' ⟨rfl, h⟩; obtain rfl := h.symm) | (go_at_call 49; refine C2.out.mono ?_; rintro e w' ⟨rfl, h⟩; obtain rfl := h.symm))
  go_ret2
  have hf := FIN.out
  rw [show (w.alloc (.map #[] 0)).heap.size = w.heap.size + 1 by simp] at hf
  exact ⟨_, _, rfl, hf, by omega, Nat.le_refl _, HB.out⟩
end Go.Proofs.YtkbpnkjjmipjfaaGreat.P
