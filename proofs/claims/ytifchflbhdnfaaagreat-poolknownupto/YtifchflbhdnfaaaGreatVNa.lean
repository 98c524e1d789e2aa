/- The numbers of PoolKnown: two more configurations, the takes of the chapter's example, the takes behind which no block is left; no condition. -/
import Derived.Test.YtifchflbhdnfaaaGreatVQt
namespace Go.Proofs.YtifchflbhdnfaaaGreat.P
open Go.ChangeShapes Go.WideShapes Go.ChangeAt Go.RowKit
set_option linter.unusedVariables false
set_option maxRecDepth 8192

/-! ### Configurations -/
/-- Three colours may not be. -/
def us3 : Cf := { us with C := 3 }
theorem us3_fe : fe us3 2 = 5 := by decide +kernel
theorem us_fe2 : fe us 2 = 270 := by decide +kernel
theorem us_fem : fe us (-1) = 270 := by decide +kernel
theorem us3_cin {w : World} {a : Ad} (h : Cin w a us) : Cin w a us3 := ⟨h.t, h.p, h.tl, h.pl, h.cl, h.tz, h.pz, h.cz, h.ple, by decide, by decide, h.S0, h.S1⟩
/-- One partition whose quotas leave no block. -/
def lat : Cf := { us with F := 52, tn := 1, tf := fun _ => 0, pn := 1, pf := fun _ => ⟨2, fun j => (j : Int), 3, 2, 13, 1, 1, 1, 1⟩ }
theorem lat_may : may lat = true := by decide +kernel
def latA (g1 g2 g3 : Nat) : Ad := ⟨some ⟨g3, 0, none⟩, 1, some ⟨g2, 0, none⟩, 1, fun _ => some ⟨g1, 0, none⟩, fun _ => 2⟩
theorem lat_cin {w : World} {g1 g2 g3 : Nat} (h1 : Blk w g1 3 [.int .i64 0, .int .i64 1]) (h2 : Blk w g2 52 [.slice (some ⟨g1, 0, none⟩) 2 2, .int .i64 3, .int .i64 2, .int .i64 13, .int .i64 1, .int .i64 1, .int .i64 1, .int .i64 1]) (h3 : Blk w g3 3 [.int .i64 0]) : Cin w (latA g1 g2 g3) lat := by
  have a1 : Arg w (some ⟨g1, 0, none⟩) 2 (fun i => (i : Int)) := Or.inr ⟨g1, 0, rfl, h1.lt, fun i hi => by
    rw [h1.cell]
    rcases two_lt hi with rfl | rfl <;> rfl⟩
  have a3 : Arg w (some ⟨g3, 0, none⟩) 1 (fun _ => (0 : Int)) := Or.inr ⟨g3, 0, rfl, h3.lt, fun i hi => by
    rw [h3.cell]
    obtain rfl : i = 0 := by omega
    rfl⟩
  refine ⟨a3, Or.inr ⟨g2, 0, rfl, h2.lt, fun i hi => ?_⟩, by decide, by decide, fun i hi => ?_, (fun e => by cases e), (fun e => by cases e), (fun i hi e => by cases e), Nat.le_refl 1, by decide, by decide, by decide, by decide⟩
  · have hi' : i < 1 := hi
    obtain rfl : i = 0 := by omega
    exact ⟨⟨h2.lt, h2.cell _, h2.cell _, h2.cell _, h2.cell _, h2.cell _, h2.cell _, h2.cell _, h2.cell _⟩, a1⟩
  · show 2 * 8 ≤ 140737488351232
    decide
/-! ### The chapter's takes -/
def L4 : Nat → Nat → List Nat := B.put L3 0 (B.tkL (L3 0) 0 1 2)
def L5 : Nat → Nat → List Nat := B.put L4 1 (B.tkL (L4 1) 0 1 2)
theorem u4_of {g : Nat} {us3 us' : Us} (h2 : Lv PU us3 L3) (h : Tkn PU us3 3 g us') : g = 8 ∧ us' = B.pt us3 8 (some 3) ∧ Lv PU us' L4 := h2.take PU_ok (i := 0) (k := 1) (a := 2) (r := []) (by decide) (by decide) (by decide) (by decide) h
theorem u5_of {g : Nat} {us4 us' : Us} (h2 : Lv PU us4 L4) (h : Tkn PU us4 4 g us') : g = 9 ∧ us' = B.pt us4 9 (some 4) ∧ Lv PU us' L5 := h2.take PU_ok (i := 1) (k := 1) (a := 2) (r := []) (by decide) (by decide) (by decide) (by decide) h
def v2 : Us := B.pt u1 1 (some 2)
def v3 : Us := B.pt v2 5 (some 3)
def v4 : Us := B.pt v3 8 (some 3)
def v5 : Us := B.pt v4 9 (some 4)
theorem v2_c (u : Nat) : cU v2 u 4096 = cU u1 u 4096 + if u = 2 then 1 else 0 := cU_take (by decide) 2 u (by omega)
theorem v3_c (u : Nat) : cU v3 u 4096 = cU v2 u 4096 + if u = 3 then 1 else 0 := cU_take (by decide) 3 u (by omega)
theorem v4_c (u : Nat) : cU v4 u 4096 = cU v3 u 4096 + if u = 3 then 1 else 0 := cU_take (by decide) 3 u (by omega)
theorem v5_c (u : Nat) : cU v5 u 4096 = cU v4 u 4096 + if u = 4 then 1 else 0 := cU_take (by decide) 4 u (by omega)
theorem u1_c1 : cU u1 1 4096 = 2 := by
  unfold u1
  rw [cU_mk PU_ok u_room 1 (Nat.le_refl _), cU_none, if_pos rfl]
  rfl
theorem v3_c3 : cU v3 3 4096 = 1 := by rw [v3_c, v2_c, u1_c 3 (by omega)]; rfl
theorem v4_c4 : cU v4 4 4096 = 0 := by rw [v4_c, v3_c, v2_c, u1_c 4 (by omega)]; rfl
theorem v5_c4 : cU v5 4 4096 = 1 := by rw [v5_c, v4_c4]; rfl
theorem v5_us : B.us 4096 v5 = [0, 1, 4, 5, 8, 9] := by decide +kernel
theorem none_us : B.us 4096 (fun _ => none) = [] := by simp [B.us]
theorem none_whole : decide (tU (fun _ => none) = cU (fun _ => none) 1 4096) = true := by simp [tU, cU_none]
def v6 : Us := B.pt v5 1 none
theorem v6_whole : decide (tU v6 = cU v6 1 4096) = false := by
  unfold v6
  have h := cU_give (us := v5) (g := 1) (v := 2) (by decide) 4 (show 1 < 4096 by omega)
  rw [v5_c4] at h
  simp at h
  refine decide_eq_false (fun e => ?_)
  unfold tU at e
  omega
theorem u0_fr : frs PU (fun _ => none) PU.k = [16, 16] := by decide +kernel
theorem u0_n : cN PU (fun _ => none) 0 = 32 ∧ cN PU (fun _ => none) 1 = 0 ∧ cN PU (fun _ => none) 2 = 0 ∧ cN PU (fun _ => none) 3 = 0 ∧ cN PU (fun _ => none) 4 = 0 ∧ cN PU (fun _ => none) 5 = 0 ∧ cN PU (fun _ => none) 6 = 0 := by
  refine ⟨by decide +kernel, ?_, ?_, ?_, ?_, ?_, ?_⟩ <;> exact cU_none _ _
/-! ### The takes behind which no block is left -/
def PL : Par := par lat 0
theorem PL_ok : PL.Ok := par_ok (may_iff.1 lat_may) (by decide)
/-- The least place that is open, of the least block: its order, it. -/
def ko (L : Nat → List Nat) : Nat := ((List.range 7).find? fun k => !(L k).isEmpty).getD 6
/-- The lists behind n takes. -/
def ta : Nat → Nat → List Nat
  | 0 => B.nwL 13
  | n + 1 => B.tkL (ta n) 0 (ko (ta n)) ((ta n (ko (ta n))).headD 0)
def Ly (i : Nat) : Nat → Nat → List Nat := fun c => if c = 0 then ta ((i + 1) / 2) else if c = 1 then ta (i / 2) else ta 0
theorem ta_ok : ∀ n, n < 9 → ko (ta n) ≤ 6 ∧ (∀ j, j < ko (ta n) → ta n j = []) ∧ ta n (ko (ta n)) = (ta n (ko (ta n))).headD 0 :: (ta n (ko (ta n))).tail ∧ B.fr (ta n) = 13 - n := by decide +kernel
theorem ta_end : ∀ j, j < 7 → 3 ≤ j → ta 9 j = [] := by decide +kernel
def useY (i : Nat) : Nat := [2, 2, 4, 5, 6].getD i 3
def cntY (i u : Nat) : Nat := ((List.range i).filter fun j => useY j == u).length
theorem cntY_succ (i u : Nat) : cntY (i + 1) u = cntY i u + if u = useY i then 1 else 0 := by
  unfold cntY
  rw [List.range_succ, List.filter_append, List.length_append]
  by_cases h : u = useY i
  · subst h; simp
  · have : (useY i == u) = false := by simp; exact fun e => h e.symm
    simp [this, h]
theorem cntY_lt : ∀ i, i < 18 → cntY i (useY i) < PL.q (useY i) := by decide +kernel
theorem useY_in : ∀ i, i < 18 → 2 ≤ useY i ∧ useY i ≤ 6 := by decide +kernel
theorem bestY : ∀ i, i < 18 → bs (fun c => B.fr (Ly i c)) (PL.k - 1) = i % 2 := by decide +kernel
theorem lat_take {i g : Nat} {us us' : Us} (hi : i < 18) (h : Lv PL us (Ly i)) (hc : ∀ u, cU us u 4096 = cntY i u) (hT : Tkn PL us (useY i) g us') : Lv PL us' (Ly (i + 1)) ∧ ∀ u, cU us' u 4096 = cntY (i + 1) u := by
  refine ⟨?_, fun u => by rw [cU_tkn PL_ok hT u, hc, cntY_succ]⟩
  have hn : i / 2 < 9 := by omega
  have e0 : Ly i (i % 2) = ta (i / 2) := by
    unfold Ly
    rcases Nat.mod_two_eq_zero_or_one i with h | h
    · rw [h, if_pos rfl, show (i + 1) / 2 = i / 2 by omega]
    · rw [h, if_neg (by omega), if_pos rfl]
  obtain ⟨k1, k2, k3, _⟩ := ta_ok _ hn
  obtain ⟨_, _, h3⟩ := h.take PL_ok (i := i % 2) (k := ko (ta (i / 2))) (a := (ta (i / 2) (ko (ta (i / 2)))).headD 0) (r := (ta (i / 2) (ko (ta (i / 2)))).tail) (bestY i hi) k1 (by rw [e0]; exact k2) (by rw [e0]; exact k3) hT
  have e1 : B.put (Ly i) (i % 2) (B.tkL (Ly i (i % 2)) 0 (ko (ta (i / 2))) ((ta (i / 2) (ko (ta (i / 2)))).headD 0)) = Ly (i + 1) := by
    rw [e0]
    funext c
    by_cases hc : c = i % 2
    · subst hc
      rw [B.put_same]
      show ta (i / 2 + 1) = Ly (i + 1) (i % 2)
      unfold Ly
      rcases Nat.mod_two_eq_zero_or_one i with h | h
      · rw [h, if_pos rfl, show (i + 1 + 1) / 2 = i / 2 + 1 by omega]
      · rw [h, if_neg (by omega), if_pos rfl, show (i + 1) / 2 = i / 2 + 1 by omega]
    · rw [B.put_other _ _ _ _ hc]
      unfold Ly
      by_cases h0 : c = 0
      · rw [if_pos h0, if_pos h0, show (i + 1 + 1) / 2 = (i + 1) / 2 by omega]
      · rw [if_neg h0, if_neg h0]
        by_cases h1 : c = 1
        · rw [if_pos h1, if_pos h1, show (i + 1) / 2 = i / 2 by omega]
        · rw [if_neg h1, if_neg h1]
  rw [e1] at h3
  exact h3
theorem lat_none {us : Us} (h : Lv PL us (Ly 18)) (a : Nat) : ¬ Nx (opn PL us 0) PL.o a := h.no (i := 0) (by decide) (fun j h1 h2 => ta_end j h1 h2) a
end Go.Proofs.YtifchflbhdnfaaaGreat.P
