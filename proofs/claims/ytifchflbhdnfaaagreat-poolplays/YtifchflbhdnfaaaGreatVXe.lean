/- Both pools by one state (what the frames are taken for, or no pool): what each call tells and leaves; no condition but those that each theorem names. -/
import Derived.Test.YtifchflbhdnfaaaGreatVXn
import Derived.Test.YtifchflbhdnfaaaGreatVXb
import Derived.Test.YtifchflbhdnfaaaGreatVLw
import Derived.Deep.CutRange
namespace Go.Proofs.YtifchflbhdnfaaaGreat.P
open Go.ChangeShapes Go.WideShapes Go.ChangeAt Go.RowKit
set_option linter.unusedVariables false
set_option maxRecDepth 8192

/-- The program's pool, or none. -/
def PoO (w : World) (F : Nat → Prop) (vp : Option Addr) (P : Par) : Option Us → Prop
  | none => vp = none ∧ ∀ x, ¬ F x
  | some us => ∃ p, vp = some ⟨p, 0, none⟩ ∧ Po w F p P us
/-- The document's pool, or none. -/
def RoO (w : World) (F : Nat → Prop) (vr : Option Addr) (P : Par) : Option Us → Prop
  | none => vr = none ∧ ∀ x, ¬ F x
  | some us => ∃ p, vr = some ⟨p, 0, none⟩ ∧ Ro w F p P us
theorem PoO.lt {w : World} {F : Nat → Prop} {vp : Option Addr} {P : Par} {s : Option Us} (h : PoO w F vp P s) : ∀ x, F x → x < w.heap.size := by
  cases s with
  | none => exact fun x hx => absurd hx (h.2 x)
  | some us => obtain ⟨p, _, hp⟩ := h; exact hp.lt
theorem RoO.lt {w : World} {F : Nat → Prop} {vp : Option Addr} {P : Par} {s : Option Us} (h : RoO w F vp P s) : ∀ x, F x → x < w.heap.size := by
  cases s with
  | none => exact fun x hx => absurd hx (h.2 x)
  | some us => obtain ⟨p, _, hp⟩ := h; exact hp.lt
theorem PoO.of_eq {w w' : World} {F : Nat → Prop} {vp : Option Addr} {P : Par} {s : Option Us} (h : PoO w F vp P s) (hs : w.heap.size ≤ w'.heap.size) (e : ∀ x, F x → w'.heap[x]? = w.heap[x]?) : PoO w' F vp P s := by
  cases s with
  | none => exact h
  | some us => obtain ⟨p, h1, hp⟩ := h; exact ⟨p, h1, hp.of_eq hs e⟩
theorem RoO.of_eq {w w' : World} {F : Nat → Prop} {vp : Option Addr} {P : Par} {s : Option Us} (h : RoO w F vp P s) (hs : w.heap.size ≤ w'.heap.size) (e : ∀ x, F x → w'.heap[x]? = w.heap[x]?) : RoO w' F vp P s := by
  cases s with
  | none => exact h
  | some us => obtain ⟨p, h1, hp⟩ := h; exact ⟨p, h1, hp.of_eq hs e⟩
theorem PoO.below {w w' : World} {F : Nat → Prop} {vp : Option Addr} {P : Par} {s : Option Us} (h : PoO w F vp P s) (k : Below w.heap.size w w') : PoO w' F vp P s := h.of_eq k.size (fun x hx => k.block x (h.lt x hx))
theorem RoO.below {w w' : World} {F : Nat → Prop} {vp : Option Addr} {P : Par} {s : Option Us} (h : RoO w F vp P s) (k : Below w.heap.size w w') : RoO w' F vp P s := h.of_eq k.size (fun x hx => k.block x (h.lt x hx))
/-! ### What is told -/
def frO (P : Par) : Option Us → List Int
  | none => []
  | some us => frs P us P.k
def uO : Option Us → Us
  | none => fun _ => none
  | some us => us
def lO : Option Us → List Nat
  | none => []
  | some us => B.us 4096 us
def cO (P : Par) : Option Us → Nat → Nat
  | none => fun _ => 0
  | some us => cN P us
def wO : Option Us → Bool
  | none => false
  | some us => decide (tU us = cU us 1 4096)
theorem lO_len (s : Option Us) : (lO s).length ≤ 4096 := by
  cases s with
  | none => simp [lO]
  | some us => exact us_le us 4096
theorem frO_len {w : World} {F : Nat → Prop} {vp : Option Addr} {P : Par} {s : Option Us} (h : PoO w F vp P s) : (frO P s).length ≤ 16 := by
  cases s with
  | none => simp [frO]
  | some us =>
    obtain ⟨p, h1, hp⟩ := h
    show (frs P us P.k).length ≤ 16
    rw [frs_len]
    exact hp.ok.k2
theorem pFreeO {w : World} {F : Nat → Prop} {vp : Option Addr} {P : Par} {s : Option Us} (h : PoO w F vp P s) : Calls Tryz.prog 20 #[.pointer vp] w fun e w' => ∃ v, e = .returned v ∧ Is w' w.heap.size v (frO P s) ∧ Below w.heap.size w w' := by
  cases s with
  | none =>
    obtain ⟨rfl, _⟩ := h
    refine (Free_nop (Or.inl rfl)).mono ?_
    rintro e w' ⟨rfl, rfl⟩
    exact ⟨_, rfl, Is.nil _ _, Below.refl _ _⟩
  | some us =>
    obtain ⟨p, rfl, hp⟩ := h
    exact Free_p hp
theorem rFreeO {w : World} {F : Nat → Prop} {vp : Option Addr} {P : Par} {s : Option Us} (h : RoO w F vp P s) : Calls Tryz.prog 38 #[.pointer vp] w fun e w' => ∃ v, e = .returned v ∧ Is w' w.heap.size v (frO P s) ∧ Below w.heap.size w w' := by
  cases s with
  | none =>
    obtain ⟨rfl, _⟩ := h
    refine rFree_nop.mono ?_
    rintro e w' ⟨rfl, rfl⟩
    exact ⟨_, rfl, Is.nil _ _, Below.refl _ _⟩
  | some us =>
    obtain ⟨p, rfl, hp⟩ := h
    exact rFree_p hp
theorem pOwnedO {w : World} {F : Nat → Prop} {vp : Option Addr} {P : Par} {s : Option Us} (h : PoO w F vp P s) : Calls Tryz.prog 27 #[.pointer vp] w fun e w' => ∃ v, e = .returned v ∧ Os w' w.heap.size v (uO s) (lO s) ∧ Below w.heap.size w w' := by
  cases s with
  | none =>
    obtain ⟨rfl, _⟩ := h
    refine (Owned_nop (Or.inl rfl)).mono ?_
    rintro e w' ⟨rfl, rfl⟩
    exact ⟨_, rfl, Os.nil _ _ _, Below.refl _ _⟩
  | some us =>
    obtain ⟨p, rfl, hp⟩ := h
    exact Owned_p hp
theorem rOwnedO {w : World} {F : Nat → Prop} {vp : Option Addr} {P : Par} {s : Option Us} (h : RoO w F vp P s) : Calls Tryz.prog 39 #[.pointer vp] w fun e w' => ∃ v, e = .returned v ∧ Os w' w.heap.size v (uO s) (lO s) ∧ Below w.heap.size w w' := by
  cases s with
  | none =>
    obtain ⟨rfl, _⟩ := h
    refine rOwned_nop.mono ?_
    rintro e w' ⟨rfl, rfl⟩
    exact ⟨_, rfl, Os.nil _ _ _, Below.refl _ _⟩
  | some us =>
    obtain ⟨p, rfl, hp⟩ := h
    exact rOwned_p hp
theorem pCountsO {w : World} {F : Nat → Prop} {vp : Option Addr} {P : Par} {s : Option Us} (h : PoO w F vp P s) : Calls Tryz.prog 26 #[.pointer vp] w (One (.agg (n7L (cO P s)).toArray) w) := by
  cases s with
  | none =>
    obtain ⟨rfl, _⟩ := h
    exact Counts_nop (Or.inl rfl)
  | some us =>
    obtain ⟨p, rfl, hp⟩ := h
    exact Counts_p hp
theorem rCountsO {w : World} {F : Nat → Prop} {vp : Option Addr} {P : Par} {s : Option Us} (h : RoO w F vp P s) : Calls Tryz.prog 36 #[.pointer vp] w (One (.agg (n7L (cO P s)).toArray) w) := by
  cases s with
  | none =>
    obtain ⟨rfl, _⟩ := h
    exact rCounts_nop
  | some us =>
    obtain ⟨p, rfl, hp⟩ := h
    exact rCounts_p hp
theorem pWholeO {w : World} {F : Nat → Prop} {vp : Option Addr} {P : Par} {s : Option Us} (h : PoO w F vp P s) : Calls Tryz.prog 23 #[.pointer vp] w (One (.bool (wO s)) w) := by
  cases s with
  | none =>
    obtain ⟨rfl, _⟩ := h
    exact Whole_nop (Or.inl rfl)
  | some us =>
    obtain ⟨p, rfl, hp⟩ := h
    exact Whole_p hp
theorem rWholeO {w : World} {F : Nat → Prop} {vp : Option Addr} {P : Par} {s : Option Us} (h : RoO w F vp P s) : Calls Tryz.prog 37 #[.pointer vp] w (One (.bool (wO s)) w) := by
  cases s with
  | none =>
    obtain ⟨rfl, _⟩ := h
    exact rWhole_nop.mono (fun e w' he => ⟨he.1, he.2 ▸ Below.refl _ _⟩)
  | some us =>
    obtain ⟨p, rfl, hp⟩ := h
    exact (rWhole_p hp).mono (fun e w' he => ⟨he.1, he.2 ▸ Below.refl _ _⟩)
/-! ### Take -/
/-- One answer of Take: a frame g, an error e, what the state is then. -/
def TkO (P : Par) (s : Option Us) (u g e : Nat) (s' : Option Us) : Prop :=
  match s with
  | none => g = 0 ∧ e = 1 ∧ s' = none
  | some us => ((u < 2 ∨ 6 < u) ∧ g = 0 ∧ e = 2 ∧ s' = some us) ∨ (2 ≤ u ∧ u ≤ 6 ∧ ∃ us', Tko P us u g e us' ∧ s' = some us')
theorem TkO.uniq {P : Par} {s : Option Us} {u g g' e e' : Nat} {s' s'' : Option Us} (h : TkO P s u g e s') (h' : TkO P s u g' e' s'') : g' = g ∧ e' = e ∧ s'' = s' := by
  cases s with
  | none =>
    obtain ⟨rfl, rfl, rfl⟩ := h
    obtain ⟨rfl, rfl, rfl⟩ := h'
    exact ⟨rfl, rfl, rfl⟩
  | some us =>
    rcases h with ⟨h0, rfl, rfl, rfl⟩ | ⟨h2, h6, us', ht, rfl⟩
    · rcases h' with ⟨_, rfl, rfl, rfl⟩ | ⟨h2, h6, _⟩
      · exact ⟨rfl, rfl, rfl⟩
      · omega
    · rcases h' with ⟨h0, _⟩ | ⟨_, _, us'', ht', rfl⟩
      · omega
      · obtain ⟨rfl, rfl, rfl⟩ := ht.uniq ht'
        exact ⟨rfl, rfl, rfl⟩
theorem Tko.le {P : Par} (hP : P.Ok) {us : Us} {u g e : Nat} {us' : Us} (h : Tko P us u g e us') : g ≤ 4096 := by
  rcases h with ⟨_, ⟨a, h1, h2, _⟩, _⟩ | ⟨_, h, _⟩
  · have := fm_lt hP (best_lt hP us) (opn_iff.1 h1.open).1
    omega
  · omega
theorem pTakeO {w : World} {F : Nat → Prop} {vp : Option Addr} {P : Par} {s : Option Us} (h : PoO w F vp P s) (u : Nat) : Calls Tryz.prog 11 #[.pointer vp, .int .u8 u] w fun x w' => ∃ (g e : Nat) (s' : Option Us) (F' : Nat → Prop), x = .returned (.tuple #[.int .i64 g, .int .i64 e]) ∧ TkO P s u g e s' ∧ g ≤ 4096 ∧ PoO w' F' vp P s' ∧ B.Kp F F' w w' := by
  cases s with
  | none =>
    obtain ⟨rfl, hF⟩ := h
    refine (Take_nop (Or.inl rfl) u).mono ?_
    rintro e w' ⟨rfl, rfl⟩
    exact ⟨0, 1, none, F, rfl, ⟨rfl, rfl, rfl⟩, by omega, ⟨rfl, hF⟩, B.Kp.refl _ _⟩
  | some us =>
    obtain ⟨p, rfl, hp⟩ := h
    by_cases hu : u < 2 ∨ 6 < u
    · refine (Take_arg hp u (by omega)).mono ?_
      rintro e w' ⟨rfl, rfl⟩
      exact ⟨0, 2, some us, F, rfl, Or.inl ⟨hu, rfl, rfl, rfl⟩, by omega, ⟨p, rfl, hp⟩, B.Kp.refl _ _⟩
    · refine (Take_use hp u (by omega) (by omega)).mono ?_
      rintro x w' ⟨g, e, us', F', rfl, hT, hP, hK⟩
      exact ⟨g, e, some us', F', rfl, Or.inr ⟨by omega, by omega, us', hT, rfl⟩, hT.le hp.ok, ⟨p, rfl, hP⟩, hK⟩
theorem rTakeO {w : World} {F : Nat → Prop} {vp : Option Addr} {P : Par} {s : Option Us} (h : RoO w F vp P s) (u : Nat) : Calls Tryz.prog 12 #[.pointer vp, .int .u8 u] w fun x w' => ∃ (g e : Nat) (s' : Option Us), x = .returned (.tuple #[.int .i64 g, .int .i64 e]) ∧ TkO P s u g e s' ∧ RoO w' F vp P s' ∧ B.Kp F F w w' := by
  cases s with
  | none =>
    obtain ⟨rfl, hF⟩ := h
    refine (rTake_nop u).mono ?_
    rintro e w' ⟨rfl, rfl⟩
    exact ⟨0, 1, none, rfl, ⟨rfl, rfl, rfl⟩, ⟨rfl, hF⟩, B.Kp.refl _ _⟩
  | some us =>
    obtain ⟨p, rfl, hp⟩ := h
    by_cases hu : u < 2 ∨ 6 < u
    · refine (rTake_arg hp u (by omega)).mono ?_
      rintro e w' ⟨rfl, rfl⟩
      exact ⟨0, 2, some us, rfl, Or.inl ⟨hu, rfl, rfl, rfl⟩, ⟨p, rfl, hp⟩, B.Kp.refl _ _⟩
    · by_cases hq : cU us u 4096 < P.q u
      · refine (rTake_p hp u (by omega) (by omega) hq).mono ?_
        rintro x w' ⟨g, us', rfl, hT, hP, hK⟩
        exact ⟨g, 0, some us', rfl, Or.inr ⟨by omega, by omega, us', Or.inl ⟨rfl, hT, hq⟩, rfl⟩, ⟨p, rfl, hP⟩, hK⟩
      · refine (rTake_mem hp u (by omega) (by omega) (by omega)).mono ?_
        rintro x w' ⟨rfl, hb⟩
        exact ⟨0, 4, some us, rfl, Or.inr ⟨by omega, by omega, us, Or.inr ⟨rfl, rfl, rfl, by omega⟩, rfl⟩, ⟨p, rfl, hp.below hb⟩, below_kp hb⟩
/-! ### Give -/
/-- One answer of Give. -/
def GvO (s : Option Us) (x : Int) (e : Int) (s' : Option Us) : Prop :=
  match s with
  | none => e = 1 ∧ s' = none
  | some us => (∃ g u : Nat, x = g ∧ us g = some u ∧ 2 ≤ u ∧ e = 0 ∧ s' = some (B.pt us g none)) ∨ ((∀ g : Nat, x = g → us g = none ∨ us g = some 1) ∧ e = 91 ∧ s' = some us)
theorem gvO_some (s : Option Us) (x : Int) (hv : ∀ us, s = some us → ∀ g u, us g = some u → 1 ≤ u) : ∃ e s', GvO s x e s' := by
  cases s with
  | none => exact ⟨1, none, rfl, rfl⟩
  | some us =>
    by_cases h : ∃ g u : Nat, x = g ∧ us g = some u ∧ 2 ≤ u
    · obtain ⟨g, u, h1, h2, h3⟩ := h
      exact ⟨0, _, Or.inl ⟨g, u, h1, h2, h3, rfl, rfl⟩⟩
    · refine ⟨91, _, Or.inr ⟨fun g hg => ?_, rfl, rfl⟩⟩
      cases hu : us g with
      | none => exact Or.inl rfl
      | some u =>
        have h1 := hv us rfl g u hu
        by_cases h2 : 2 ≤ u
        · exact absurd ⟨g, u, hg, hu, h2⟩ h
        · obtain rfl : u = 1 := by omega
          exact Or.inr rfl
theorem PoO.uses {w : World} {F : Nat → Prop} {vp : Option Addr} {P : Par} {s : Option Us} (h : PoO w F vp P s) : ∀ us, s = some us → ∀ g u, us g = some u → 1 ≤ u := by
  rintro us rfl g u hu
  obtain ⟨p, _, hp⟩ := h
  exact (hp.va.us1 g u hu).1
theorem pGiveO {w : World} {F : Nat → Prop} {vp : Option Addr} {P : Par} {s : Option Us} (h : PoO w F vp P s) (x : Int) (h0 : -9223372036854775808 ≤ x) (h1 : x ≤ 9223372036854775807) {e : Int} {s' : Option Us} (hg : GvO s x e s') : Calls Tryz.prog 13 #[.pointer vp, .int .i64 x] w fun y w' => ∃ F', y = .returned (.int .i64 e) ∧ PoO w' F' vp P s' ∧ B.Kp F F' w w' := by
  cases s with
  | none =>
    obtain ⟨rfl, hF⟩ := h
    obtain ⟨rfl, rfl⟩ := hg
    refine (Give_nop (Or.inl rfl) x).mono ?_
    rintro y w' ⟨rfl, rfl⟩
    exact ⟨F, rfl, ⟨rfl, hF⟩, B.Kp.refl _ _⟩
  | some us =>
    obtain ⟨p, rfl, hp⟩ := h
    rcases hg with ⟨g, u, rfl, hu, h2, rfl, rfl⟩ | ⟨hn, rfl, rfl⟩
    · refine (Give_p hp g u hu h2).mono ?_
      rintro y w' ⟨F', rfl, hP, hK⟩
      exact ⟨F', rfl, ⟨p, rfl, hP⟩, hK⟩
    · refine (Give_no hp x h0 h1 hn).mono ?_
      rintro y w' ⟨rfl, rfl⟩
      exact ⟨F, rfl, ⟨p, rfl, hp⟩, B.Kp.refl _ _⟩
theorem rGiveO {w : World} {F : Nat → Prop} {vp : Option Addr} {P : Par} {s : Option Us} (h : RoO w F vp P s) (x : Int) (h0 : -9223372036854775808 ≤ x) (h1 : x ≤ 9223372036854775807) {e : Int} {s' : Option Us} (hg : GvO s x e s') : Calls Tryz.prog 14 #[.pointer vp, .int .i64 x] w fun y w' => y = .returned (.int .i64 e) ∧ RoO w' F vp P s' ∧ B.Kp F F w w' := by
  cases s with
  | none =>
    obtain ⟨rfl, hF⟩ := h
    obtain ⟨rfl, rfl⟩ := hg
    refine (rGive_nop x).mono ?_
    rintro y w' ⟨rfl, rfl⟩
    exact ⟨rfl, ⟨rfl, hF⟩, B.Kp.refl _ _⟩
  | some us =>
    obtain ⟨p, rfl, hp⟩ := h
    rcases hg with ⟨g, u, rfl, hu, h2, rfl, rfl⟩ | ⟨hn, rfl, rfl⟩
    · refine (rGive_p hp g u hu h2).mono ?_
      rintro y w' ⟨rfl, hP, hK⟩
      exact ⟨rfl, ⟨p, rfl, hP⟩, hK⟩
    · refine (rGive_no hp x h0 h1 hn).mono ?_
      rintro y w' ⟨rfl, rfl⟩
      exact ⟨rfl, ⟨p, rfl, hp⟩, B.Kp.refl _ _⟩
/-! ### Image -/
/-- One answer of Image. -/
def ImO (P : Par) (s : Option Us) (e : Int) (l : List Int) (s' : Option Us) : Prop :=
  match s with
  | none => e = 1 ∧ l = [] ∧ s' = none
  | some us => (0 < cU us 1 4096 ∧ e = 91 ∧ l = [] ∧ s' = some us) ∨ (cU us 1 4096 = 0 ∧ (∀ a, ¬ Nx (opn P us 0) P.o a) ∧ e = 4 ∧ l = [] ∧ s' = some us) ∨ (cU us 1 4096 = 0 ∧ ∃ a, Nx (opn P us 0) P.o a ∧ e = 0 ∧ l = imgL P a (2 ^ P.o) ∧ s' = some (mkI P us a (2 ^ P.o)))
theorem imO_some (P : Par) (s : Option Us) : ∃ e l s', ImO P s e l s' := by
  cases s with
  | none => exact ⟨1, [], none, rfl, rfl, rfl⟩
  | some us =>
    by_cases h : 0 < cU us 1 4096
    · exact ⟨91, [], _, Or.inl ⟨h, rfl, rfl, rfl⟩⟩
    · by_cases h2 : ∃ a, Nx (opn P us 0) P.o a
      · obtain ⟨a, ha⟩ := h2
        exact ⟨0, _, _, Or.inr (Or.inr ⟨by omega, a, ha, rfl, rfl, rfl⟩)⟩
      · exact ⟨4, [], _, Or.inr (Or.inl ⟨by omega, fun a ha => h2 ⟨a, ha⟩, rfl, rfl, rfl⟩)⟩
theorem ImO.len {w : World} {F : Nat → Prop} {vp : Option Addr} {P : Par} {s : Option Us} (h : PoO w F vp P s) {e : Int} {l : List Int} {s' : Option Us} (hi : ImO P s e l s') : l.length ≤ 8 := by
  cases s with
  | none => obtain ⟨_, rfl, _⟩ := hi; simp
  | some us =>
    obtain ⟨p, _, hp⟩ := h
    rcases hi with ⟨_, _, rfl, _⟩ | ⟨_, _, _, rfl, _⟩ | ⟨_, a, _, _, rfl, _⟩
    · simp
    · simp
    · rw [imgL_len]
      exact (pow_o hp.ok.o3).2.1
theorem pImageO {w : World} {F : Nat → Prop} {vp : Option Addr} {P : Par} {s : Option Us} (h : PoO w F vp P s) {e : Int} {l : List Int} {s' : Option Us} (hi : ImO P s e l s') : Calls Tryz.prog 15 #[.pointer vp] w fun y w' => ∃ v F', y = .returned (.tuple #[v, .int .i64 e]) ∧ Is w' w.heap.size v l ∧ (∀ k, v.ownBlock = some k → ¬ F' k) ∧ PoO w' F' vp P s' ∧ B.Kp F F' w w' := by
  cases s with
  | none =>
    obtain ⟨rfl, hF⟩ := h
    obtain ⟨rfl, rfl, rfl⟩ := hi
    refine (Image_nop (Or.inl rfl)).mono ?_
    rintro y w' ⟨rfl, rfl⟩
    exact ⟨_, F, rfl, Is.nil _ _, (fun k hk => by cases hk), ⟨rfl, hF⟩, B.Kp.refl _ _⟩
  | some us =>
    obtain ⟨p, rfl, hp⟩ := h
    rcases hi with ⟨h1, rfl, rfl, rfl⟩ | ⟨h1, h2, rfl, rfl, rfl⟩ | ⟨h1, a, h2, rfl, rfl, rfl⟩
    · refine (Image_taken hp h1).mono ?_
      rintro y w' ⟨rfl, rfl⟩
      exact ⟨_, F, rfl, Is.nil _ _, (fun k hk => by cases hk), ⟨p, rfl, hp⟩, B.Kp.refl _ _⟩
    · refine (Image_mem hp h1 h2).mono ?_
      rintro y w' ⟨rfl, hb⟩
      exact ⟨_, F, rfl, Is.nil _ _, (fun k hk => by cases hk), ⟨p, rfl, hp.below hb⟩, below_kp hb⟩
    · refine (Image_p hp h1 a h2).mono ?_
      rintro y w' ⟨v, F', rfl, hI, hd, hP, hK⟩
      exact ⟨v, F', rfl, hI, hd, ⟨p, rfl, hP⟩, hK⟩
theorem rImageO {w : World} {F : Nat → Prop} {vp : Option Addr} {P : Par} {s : Option Us} (h : RoO w F vp P s) {e : Int} {l : List Int} {s' : Option Us} (hi : ImO P s e l s') : Calls Tryz.prog 16 #[.pointer vp] w fun y w' => ∃ v, y = .returned (.tuple #[v, .int .i64 e]) ∧ Is w' w.heap.size v l ∧ RoO w' F vp P s' ∧ B.Kp F F w w' := by
  cases s with
  | none =>
    obtain ⟨rfl, hF⟩ := h
    obtain ⟨rfl, rfl, rfl⟩ := hi
    refine rImage_nop.mono ?_
    rintro y w' ⟨rfl, rfl⟩
    exact ⟨_, rfl, Is.nil _ _, ⟨rfl, hF⟩, B.Kp.refl _ _⟩
  | some us =>
    obtain ⟨p, rfl, hp⟩ := h
    rcases hi with ⟨h1, rfl, rfl, rfl⟩ | ⟨h1, h2, rfl, rfl, rfl⟩ | ⟨h1, a, h2, rfl, rfl, rfl⟩
    · refine (rImage_taken hp h1).mono ?_
      rintro y w' ⟨rfl, rfl⟩
      exact ⟨_, rfl, Is.nil _ _, ⟨p, rfl, hp⟩, B.Kp.refl _ _⟩
    · refine (rImage_mem hp h1 h2).mono ?_
      rintro y w' ⟨rfl, hb⟩
      exact ⟨_, rfl, Is.nil _ _, ⟨p, rfl, hp.below hb⟩, below_kp hb⟩
    · refine (rImage_p hp h1 a h2).mono ?_
      rintro y w' ⟨v, rfl, hI, hP, hK⟩
      exact ⟨v, rfl, hI, ⟨p, rfl, hP⟩, hK⟩
/-! ### New -/
theorem pNewO {w : World} {a : Ad} {c : Cf} (hc : Cin w a c) (n : Int) : ∃ P s, ∀ W, Cin W a c → Calls Tryz.prog 7 #[.agg #[.int .i64 c.F, .int .i64 c.C, .int .i64 c.W, .int .i64 c.S, .int .i64 c.V, .int .i64 c.T, .int .u64 c.k.l1, .int .u64 c.k.llc, .int .u64 c.k.mi, .int .u64 c.k.fa, .int .u64 c.k.st, .int .u64 c.k.di, .int .u64 c.sl, .int .u64 c.pd, .int .u64 c.ft, .slice a.ta c.tn a.tc, .slice a.pa c.pn a.pc], .int .i64 n] W (fun e w' => ∃ vp F, e = .returned (.tuple #[.pointer vp, .int .i64 (fe c n)]) ∧ PoO w' F vp P s ∧ vp.isSome = s.isSome ∧ B.Kp (fun _ => False) F W w') ∧ Calls Tryz.prog 8 #[.agg #[.int .i64 c.F, .int .i64 c.C, .int .i64 c.W, .int .i64 c.S, .int .i64 c.V, .int .i64 c.T, .int .u64 c.k.l1, .int .u64 c.k.llc, .int .u64 c.k.mi, .int .u64 c.k.fa, .int .u64 c.k.st, .int .u64 c.k.di, .int .u64 c.sl, .int .u64 c.pd, .int .u64 c.ft, .slice a.ta c.tn a.tc, .slice a.pa c.pn a.pc], .int .i64 n] W (fun e w' => ∃ vr F, e = .returned (.tuple #[.pointer vr, .int .i64 (fe c n)]) ∧ RoO w' F vr P s ∧ vr.isSome = s.isSome ∧ B.Kp (fun _ => False) F W w') := by
  by_cases hf : fe c n = 0
  · obtain ⟨hm, k, rfl, hk⟩ := fe_zero hf
    refine ⟨par c k, some (fun _ => none), fun W hW => ⟨?_, ?_⟩⟩
    · refine (New_p hW k hm hk).mono ?_
      rintro e w' ⟨p, F, rfl, hP, hK⟩
      exact ⟨_, F, by rw [hf], ⟨p, rfl, hP⟩, rfl, hK⟩
    · refine (rNewP_p hW k hm hk).mono ?_
      rintro e w' ⟨p, F, rfl, hP, hK⟩
      exact ⟨_, F, by rw [hf], ⟨p, rfl, hP⟩, rfl, hK⟩
  · refine ⟨⟨0, 0, 0, fun _ => 0, 0, fun _ => 0⟩, none, fun W hW => ⟨?_, ?_⟩⟩
    · refine (New_no hW n hf).mono ?_
      rintro e w' ⟨rfl, hb⟩
      exact ⟨none, fun _ => False, rfl, ⟨rfl, fun _ z => z⟩, rfl, below_kp hb⟩
    · refine (rNewP_no hW n hf).mono ?_
      rintro e w' ⟨rfl, hb⟩
      exact ⟨none, fun _ => False, rfl, ⟨rfl, fun _ z => z⟩, rfl, below_kp hb⟩
end Go.Proofs.YtifchflbhdnfaaaGreat.P
/- stand of the statements: where both pools are of one state it answers true; no condition but those that each theorem names. -/
namespace Go.Proofs.YtifchflbhdnfaaaGreat.P
open Go.ChangeShapes Go.WideShapes Go.ChangeAt Go.RowKit
set_option linter.unusedVariables false
set_option maxRecDepth 8192

theorem ne7 (x y z t r s u : Int) (W : World) : (binOp .neq 58 (.agg #[.int .i64 x, .int .i64 y, .int .i64 z, .int .i64 t, .int .i64 r, .int .i64 s, .int .i64 u]) (.agg #[.int .i64 x, .int .i64 y, .int .i64 z, .int .i64 t, .int .i64 r, .int .i64 s, .int .i64 u])).run Tryz.prog W = .ok (.bool false) W := by
  obtain ⟨i, hi⟩ : ∃ i, Tryz.prog.info? 3 = some i := Option.isSome_iff_exists.1 (by kernel_rfl)
  have hc : Tryz.prog.cellsOf 3 = 1 := by kernel_rfl
  simp only [run_neq_struct]
  rw [show (10000 : Nat) = 9999 + 1 from rfl, run_equalIn_array W 9999 _ _ (Tryz.underlying58) hi, hc]
  simp [Op.eqItems, List.range, List.range.loop, go_sem, part, Tryz.underlying3]
theorem neO' (x y : Int) (W : World) : (binOp .neq 64 (.agg #[.int .i64 x, .int .u8 y]) (.agg #[.int .i64 x, .int .u8 y])).run Tryz.prog W = .ok (.bool false) W := by
  simp only [run_neq_struct]
  rw [run_equalIn_agg W 9999 64 _ _ (by kernel_rfl) Tryz.stoodInHeld64]
  simp [go_sem, Program.fieldsOf, Tryz.underlying64]
theorem quiet_load_o {P : Program} {W : World} {a : Act} {o : Oper} {K : Act → Prop} (t : TypeId) (x : Operand) (ho : o.op = .load t x) (u v : Value) (hx : a.eval x = u)
    (hrun : ∀ n, (Instr.loadAt t u).run P (W.drewN n) = .ok v (W.drewN n)) (hk : K (a.put o.dst v)) : o.quiet P a (fun w' => ∃ n, w' = W.drewN n) K := by
  refine ⟨v, fun w hw => ?_, hk⟩
  obtain ⟨n, rfl⟩ := hw
  unfold Oper.quietAt
  simp [execOp, ho, hx, hrun n, Result.andThen, Oper.quietUpon]
theorem ldO' {w : World} {b k : Nat} {x y : Int} (h1 : w.cell? ⟨b, k, none⟩ = some (.int .i64 x)) (h2 : w.cell? ⟨b, k + 1, none⟩ = some (.int .u8 y)) : (Instr.loadAt 64 (.pointer (some ⟨b, k, none⟩))).run Tryz.prog w = .ok (.agg #[.int .i64 x, .int .u8 y]) w := by
  simp [go_sem, *]
set_option maxHeartbeats 2000000 in
/-- sameOwned of two lists that say the same. -/
theorem sameOwned_any {w : World} {base base2 : Nat} {v v2 : Value} {us : Us} {l : List Nat} (hl : l.length ≤ 4096) (h : Os w base v us l) (h2 : Os w base2 v2 us l) : Calls Tryz.prog 28 #[v, v2] w (One (.bool true) w) := by
  obtain ⟨a, c, rfl, hA⟩ := h.cell
  obtain ⟨a2, c2, rfl, hA2⟩ := h2.cell
  have H1 : Hid (∀ n i x, l[i]? = some x → ∃ g, a = some ⟨g, 0, none⟩ ∧ (w.drewN n).cell? ⟨g, i * 2, none⟩ = some (.int .i64 (x : Nat)) ∧ (w.drewN n).cell? ⟨g, i * 2 + 1, none⟩ = some (.int .u8 ((us x).getD 0 : Nat))) := fun n i x hi => by
    obtain ⟨g, h1, h2, h3, h4⟩ := hA (w.drewN n) (below_drewN (Below.refl _ _) n) i x hi
    exact ⟨g, h1, h3, h4⟩
  have H2 : Hid (∀ n i x, l[i]? = some x → ∃ g, a2 = some ⟨g, 0, none⟩ ∧ (w.drewN n).cell? ⟨g, i * 2, none⟩ = some (.int .i64 (x : Nat)) ∧ (w.drewN n).cell? ⟨g, i * 2 + 1, none⟩ = some (.int .u8 ((us x).getD 0 : Nat))) := fun n i x hi => by
    obtain ⟨g, h1, h2, h3, h4⟩ := hA2 (w.drewN n) (below_drewN (Below.refl _ _) n) i x hi
    exact ⟨g, h1, h3, h4⟩
  have HX : Hid (∀ i, i < l.length → ∃ x, l[i]? = some x) := fun i hi => ⟨_, List.getElem?_eq_getElem hi⟩
  clear hA hA2 h h2
  generalize l.length = len at *
  go_enter Tryz.func28, Tryz.ntmps28
  go_wp2
  go_loopw [5] (fun i wr => ∃ k : Nat, k ≤ len ∧ i = .int .i64 k ∧ ∃ m, wr = w.drewN m) (fun i _ => len - (B.iv i).toNat)
  case atStart => exact ⟨0, by omega, rfl, 0, rfl⟩
  case round =>
    obtain ⟨k, hk, rfl, m, rfl⟩ := hrel
    by_cases hlt : k < len
    · obtain ⟨x, hx⟩ := HX.out k hlt
      obtain ⟨b, rfl, c1, c2⟩ := H1.out m k x hx
      obtain ⟨b2, rfl, d1, d2⟩ := H2.out m k x hx
      obtain ⟨y, hy⟩ : ∃ y : Int, (((us x).getD 0 : Nat) : Int) = y := ⟨_, rfl⟩
      obtain ⟨xi, hxi⟩ : ∃ y : Int, (x : Int) = y := ⟨_, rfl⟩
      rw [hy] at c2 d2
      rw [hxi] at c1 d1
      have hq := neO' xi y
      clear H1 H2 HX hx hy hxi
      have hl1 : Hid (∀ n, _) := fun n => ldO' (w := (w.drewN m).drewN n) c1 c2
      have hl2 : Hid (∀ n, _) := fun n => ldO' (w := (w.drewN m).drewN n) d1 d2
      clear c1 c2 d1 d2
      go_wp2
      refine wp_region_quiet_lit (by kernel_rfl) (by kernel_rfl) ?_
      repeat (first | (go_big_quiet_want; refine quiet_load_o 64 (.tmp 19) rfl _ _ rfl hl1.out ?_; simp only [Act.put, List.setIfInBounds_toArray, List.set_cons_zero, List.set_cons_succ]; go_big_quiet_on) | (go_big_quiet_want; refine quiet_load_o 64 (.tmp 23) rfl _ _ rfl hl2.out ?_; simp only [Act.put, List.setIfInBounds_toArray, List.set_cons_zero, List.set_cons_succ]; go_big_quiet_on) | go_big_quiet_step (fail))
      refine wpQuiet_nil ?_
      intro _ hw'
      obtain ⟨nq, hw''⟩ := hw'
      subst hw''
      go_wp2
      go_roundw
      case rel => exact ⟨k + 1, by omega, by go_num, m + nq, by first | rfl | simp [World.drewN_drewN]⟩
      case measure => simp [B.iv]; omega
    · obtain rfl : k = len := by omega
      go_wp2
      go_ret
      exact ⟨rfl, below_drewN (Below.refl _ _) m⟩
/-! ### Rows that are written over -/
/-- A row of ints that may be written. -/
def Wi (w : World) (ao : Option Addr) (n : Nat) : Prop := ∀ i, i < n → ∃ g, ao = some ⟨g, 0, none⟩ ∧ g < w.heap.size ∧ (∃ a : Int, w.cell? ⟨g, i, none⟩ = some (.int .i64 a)) ∧ w.frozen? ⟨g, i, none⟩ = false
theorem Wi.set {w : World} {g n : Nat} (h : Wi w (some ⟨g, 0, none⟩) n) (j : Nat) (x : Int) : Wi (w.setCell ⟨g, j, none⟩ (.int .i64 x)) (some ⟨g, 0, none⟩) n := fun i hi => by
  obtain ⟨g', e, h1, ⟨a, h2⟩, h3⟩ := h i hi
  cases e
  refine ⟨g, rfl, by simpa [World.setCell] using h1, ?_, by rw [World.frozen?_setCell]; exact h3⟩
  by_cases q : i = j
  · subst q
    exact ⟨x, World.cell?_setCell_same _ _ _ h2⟩
  · exact ⟨a, (World.cell?_setCell_other _ _ _ _ (by intro z; cases z; exact q rfl)).trans h2⟩
theorem Is.wi {w : World} {base : Nat} {l : List Int} {ao : Option Addr} {n c : Nat} (hn : l.length = n) (h : Is w base (.slice ao n c) l) : Wi w ao n := fun i hi => by
  subst hn
  rcases h.own.shape with ⟨_, e⟩ | ⟨g, cap, L, e, hb, h1, h2, h3, h4⟩
  · rw [e] at hi; simp at hi
  · cases e
    refine ⟨g, rfl, hb.lt, ⟨l[i], ?_⟩, hb.frozen i⟩
    rw [hb.cell, ← List.getElem?_take_of_lt hi, h4, B.tv_get, List.getElem?_eq_getElem hi]
    rfl
/-- A row of frames with uses that may be written. -/
def Wo2 (w : World) (ao : Option Addr) (n : Nat) : Prop := ∀ i, i < n → ∃ g, ao = some ⟨g, 0, none⟩ ∧ g < w.heap.size ∧ (∃ a : Int, w.cell? ⟨g, i * 2, none⟩ = some (.int .i64 a)) ∧ (∃ b : Int, w.cell? ⟨g, i * 2 + 1, none⟩ = some (.int .u8 b)) ∧ w.frozen? ⟨g, i * 2, none⟩ = false ∧ w.frozen? ⟨g, i * 2 + 1, none⟩ = false
theorem Wo2.set {w : World} {g n : Nat} (h : Wo2 w (some ⟨g, 0, none⟩) n) (j : Nat) (x y : Int) : Wo2 ((w.setCell ⟨g, j * 2, none⟩ (.int .i64 x)).setCell ⟨g, j * 2 + 1, none⟩ (.int .u8 y)) (some ⟨g, 0, none⟩) n := fun i hi => by
  obtain ⟨g', e, h1, ⟨a, h2⟩, ⟨b, h3⟩, h4, h5⟩ := h i hi
  cases e
  refine ⟨g, rfl, by simpa [World.setCell] using h1, ?_, ?_, by rw [World.frozen?_setCell, World.frozen?_setCell]; exact h4, by rw [World.frozen?_setCell, World.frozen?_setCell]; exact h5⟩
  · by_cases q : i = j
    · subst q
      exact ⟨x, (World.cell?_setCell_other _ _ _ _ (by intro z; injection z with z1 z2 z3; omega)).trans (World.cell?_setCell_same _ _ _ h2)⟩
    · exact ⟨a, (World.cell?_setCell_other _ _ _ _ (by intro z; injection z with z1 z2 z3; omega)).trans ((World.cell?_setCell_other _ _ _ _ (by intro z; injection z with z1 z2 z3; omega)).trans h2)⟩
  · by_cases q : i = j
    · subst q
      exact ⟨y, World.cell?_setCell_same _ _ _ ((World.cell?_setCell_other _ _ _ _ (by intro z; injection z with z1 z2 z3; omega)).trans h3)⟩
    · exact ⟨b, (World.cell?_setCell_other _ _ _ _ (by intro z; injection z with z1 z2 z3; omega)).trans ((World.cell?_setCell_other _ _ _ _ (by intro z; injection z with z1 z2 z3; omega)).trans h3)⟩
theorem Os.wo {w : World} {base : Nat} {us : Us} {l : List Nat} {ao : Option Addr} {n c : Nat} (hn : l.length = n) (h : Os w base (.slice ao n c) us l) : Wo2 w ao n := fun i hi => by
  subst hn
  rcases h.shape with ⟨_, e⟩ | ⟨g, cap, C, e, hg, hb, h1, h2, h3⟩
  · rw [e] at hi; simp at hi
  · cases e
    have hx := enO_get us l i l[i] (List.getElem?_eq_getElem hi)
    refine ⟨g, rfl, hb.lt, ⟨l[i], ?_⟩, ⟨((us l[i]).getD 0 : Nat), ?_⟩, hb.frozen _, hb.frozen _⟩
    · rw [hb.cell, ← List.getElem?_take_of_lt (show i * 2 < l.length * 2 by omega), h3]
      exact hx.1
    · rw [hb.cell, ← List.getElem?_take_of_lt (show i * 2 + 1 < l.length * 2 by omega), h3]
      exact hx.2
theorem Os.cap {w : World} {base : Nat} {v : Value} {us : Us} {l : List Nat} (h : Os w base v us l) : ∃ ao c, v = .slice ao l.length c := by
  obtain ⟨a, c, e, _⟩ := h.cell
  exact ⟨a, c, e⟩
theorem own_slice {ao : Option Addr} {n c g : Nat} (h : ao = some ⟨g, 0, none⟩) : (Value.slice ao n c).ownBlock = some g := by subst h; rfl
/-- EqInts of two lists that say the same. -/
theorem eq_is {w : World} {base base2 : Nat} {v v2 : Value} {l : List Int} (hl : l.length ≤ 100) (h : Is w base v l) (h2 : Is w base2 v2 l) : Calls Tryz.prog 17 #[v, v2] w (One (.bool true) w) := by
  obtain ⟨a, c, rfl, hA⟩ := h.arg
  obtain ⟨a2, c2, rfl, hA2⟩ := h2.arg
  exact EqInts_any (by omega) hA hA2
set_option maxHeartbeats 4000000 in
theorem stand_any {w : World} {Fp Fq : Nat → Prop} {vp vr : Option Addr} {P : Par} {s : Option Us} (hp : PoO w Fp vp P s) (hr : RoO w Fq vr P s) : Calls Tryz.prog 9 #[.pointer vp, .pointer vr] w (One (.bool true) w) := by
  have HP : Hid (∀ W, Below w.heap.size w W → PoO W Fp vp P s) := fun W hW => hp.below hW
  have HR : Hid (∀ W, Below w.heap.size w W → RoO W Fq vr P s) := fun W hW => hr.below hW
  have hfl := frO_len hp
  have hll := lO_len s
  obtain ⟨fl, hfe⟩ : ∃ fl, frO P s = fl := ⟨_, rfl⟩
  obtain ⟨ll, hle⟩ : ∃ ll, lO s = ll := ⟨_, rfl⟩
  obtain ⟨uu, hue⟩ : ∃ uu, uO s = uu := ⟨_, rfl⟩
  have CF : Hid (∀ W, Below w.heap.size w W → Calls Tryz.prog 20 #[.pointer vp] W fun e w' => ∃ v, e = .returned v ∧ Is w' W.heap.size v fl ∧ Below W.heap.size W w') := fun W hW => by rw [← hfe]; exact pFreeO (HP.out W hW)
  have CO : Hid (∀ W, Below w.heap.size w W → Calls Tryz.prog 27 #[.pointer vp] W fun e w' => ∃ v, e = .returned v ∧ Os w' W.heap.size v uu ll ∧ Below W.heap.size W w') := fun W hW => by rw [← hle, ← hue]; exact pOwnedO (HP.out W hW)
  have RF : Hid (∀ W, Below w.heap.size w W → Calls Tryz.prog 38 #[.pointer vr] W fun e w' => ∃ v, e = .returned v ∧ Is w' W.heap.size v fl ∧ Below W.heap.size W w') := fun W hW => by rw [← hfe]; exact rFreeO (HR.out W hW)
  have RO : Hid (∀ W, Below w.heap.size w W → Calls Tryz.prog 39 #[.pointer vr] W fun e w' => ∃ v, e = .returned v ∧ Os w' W.heap.size v uu ll ∧ Below W.heap.size W w') := fun W hW => by rw [← hle, ← hue]; exact rOwnedO (HR.out W hW)
  have CC : Hid (∀ W, Below w.heap.size w W → Calls Tryz.prog 26 #[.pointer vp] W (One (.agg #[.int .i64 (cO P s 0 : Nat), .int .i64 (cO P s 1 : Nat), .int .i64 (cO P s 2 : Nat), .int .i64 (cO P s 3 : Nat), .int .i64 (cO P s 4 : Nat), .int .i64 (cO P s 5 : Nat), .int .i64 (cO P s 6 : Nat)]) W)) := fun W hW => pCountsO (HP.out W hW)
  have RC : Hid (∀ W, Below w.heap.size w W → Calls Tryz.prog 36 #[.pointer vr] W (One (.agg #[.int .i64 (cO P s 0 : Nat), .int .i64 (cO P s 1 : Nat), .int .i64 (cO P s 2 : Nat), .int .i64 (cO P s 3 : Nat), .int .i64 (cO P s 4 : Nat), .int .i64 (cO P s 5 : Nat), .int .i64 (cO P s 6 : Nat)]) W)) := fun W hW => rCountsO (HR.out W hW)
  have CW : Hid (∀ W, Below w.heap.size w W → Calls Tryz.prog 23 #[.pointer vp] W (One (.bool (wO s)) W)) := fun W hW => pWholeO (HP.out W hW)
  have RW : Hid (∀ W, Below w.heap.size w W → Calls Tryz.prog 37 #[.pointer vr] W (One (.bool (wO s)) W)) := fun W hW => rWholeO (HR.out W hW)
  rw [hfe] at hfl
  rw [hle] at hll
  clear hp hr hfe hle hue HP HR
  generalize cO P s 0 = n0 at *
  generalize cO P s 1 = n1 at *
  generalize cO P s 2 = n2 at *
  generalize cO P s 3 = n3 at *
  generalize cO P s 4 = n4 at *
  generalize cO P s 5 = n5 at *
  generalize cO P s 6 = n6 at *
  generalize wO s = wb at *
  have h7 := ne7 n0 n1 n2 n3 n4 n5 n6
  have hbb : (wb != wb) = false := by cases wb <;> rfl
  go_enter Tryz.func9, Tryz.ntmps9
  go_wp2_with fail
  refine (CF.out _ (Below.refl _ _)).mono ?_
  rintro e w1 ⟨v1, rfl, hI1, hb1⟩
  have B1 : Hid (Below w.heap.size w w1) := hb1
  have I1 : Hid (Is w1 w.heap.size v1 fl) := hI1
  clear hI1 hb1
  go_wp2_with fail
  refine (CF.out _ B1.out).mono ?_
  rintro e w2 ⟨v2, rfl, hI2, hb2⟩
  have B2 : Hid (Below w.heap.size w w2) := B1.out.trans (hb2.mono B1.out.size)
  have B12 : Hid (Below w1.heap.size w1 w2) := hb2
  have I2 : Hid (Is w2 w1.heap.size v2 fl) := hI2
  clear hI2 hb2
  go_wp2_with fail
  refine (CO.out _ B2.out).mono ?_
  rintro e w3 ⟨v3, rfl, hI3, hb3⟩
  have B3 : Hid (Below w.heap.size w w3) := B2.out.trans (hb3.mono B2.out.size)
  have B23 : Hid (Below w2.heap.size w2 w3) := hb3
  have I3 : Hid (Os w3 w2.heap.size v3 uu ll) := hI3
  clear hI3 hb3
  go_wp2_with fail
  refine (CO.out _ B3.out).mono ?_
  rintro e w4 ⟨v4, rfl, hI4, hb4⟩
  have B4 : Hid (Below w.heap.size w w4) := B3.out.trans (hb4.mono B3.out.size)
  have B34 : Hid (Below w3.heap.size w3 w4) := hb4
  have I4 : Hid (Os w4 w3.heap.size v4 uu ll) := hI4
  clear hI4 hb4
  go_wp2_with fail
  refine (CC.out _ B4.out).mono ?_
  rintro e w5 ⟨rfl, hb5⟩
  have B5 : Hid (Below w.heap.size w w5) := B4.out.trans (hb5.mono B4.out.size)
  have B45 : Hid (Below w4.heap.size w4 w5) := hb5
  clear hb5
  go_wp2_with fail
  refine (RC.out _ B5.out).mono ?_
  rintro e w6 ⟨rfl, hb6⟩
  have B6 : Hid (Below w.heap.size w w6) := B5.out.trans (hb6.mono B5.out.size)
  have B46 : Hid (Below w4.heap.size w4 w6) := B45.out.trans (hb6.mono B45.out.size)
  clear hb6
  go_wp2_with fail
  refine (CW.out _ B6.out).mono ?_
  rintro e w7 ⟨rfl, hb7⟩
  have B7 : Hid (Below w.heap.size w w7) := B6.out.trans (hb7.mono B6.out.size)
  have B47 : Hid (Below w4.heap.size w4 w7) := B46.out.trans (hb7.mono B46.out.size)
  clear hb7
  go_wp2_with fail
  refine (RW.out _ B7.out).mono ?_
  rintro e w8 ⟨rfl, hb8⟩
  have B8 : Hid (Below w.heap.size w w8) := B7.out.trans (hb8.mono B7.out.size)
  have B48 : Hid (Below w4.heap.size w4 w8) := B47.out.trans (hb8.mono B47.out.size)
  clear hb8 B45 B46 B47 B5 B6 B7
  go_wp2_with fail
  refine (RF.out _ B8.out).mono ?_
  rintro e w9 ⟨v9, rfl, hI9, hb9⟩
  have B9 : Hid (Below w.heap.size w w9) := B8.out.trans (hb9.mono B8.out.size)
  have B49 : Hid (Below w4.heap.size w4 w9) := B48.out.trans (hb9.mono B48.out.size)
  have I19 : Is w9 w.heap.size v1 fl := (((I1.out.below B12.out).below B23.out).below B34.out).below B49.out
  have CE : Hid (Calls _ _ _ _ _) := eq_is (by omega) I19 hI9
  clear hI9 hb9 I19 B48 B8
  go_wp2_with fail
  refine CE.out.mono ?_
  rintro e w10 ⟨rfl, hb10⟩
  have B10 : Hid (Below w.heap.size w w10) := B9.out.trans (hb10.mono B9.out.size)
  have B410 : Hid (Below w4.heap.size w4 w10) := B49.out.trans (hb10.mono B49.out.size)
  clear hb10 CE B9 B49
  go_wp2_with fail
  refine (RO.out _ B10.out).mono ?_
  rintro e w11 ⟨v11, rfl, hI11, hb11⟩
  have B11 : Hid (Below w.heap.size w w11) := B10.out.trans (hb11.mono B10.out.size)
  have B411 : Hid (Below w4.heap.size w4 w11) := B410.out.trans (hb11.mono B410.out.size)
  have I311 : Os w11 w2.heap.size v3 uu ll := (I3.out.below B34.out).below B411.out
  have CS : Hid (Calls _ _ _ _ _) := sameOwned_any hll I311 hI11
  clear hI11 hb11 I311 B10 B410
  go_wp2_with fail
  refine CS.out.mono ?_
  rintro e w12 ⟨rfl, hb12⟩
  have B12' : Hid (Below w.heap.size w w12) := B11.out.trans (hb12.mono B11.out.size)
  have B412 : Hid (Below w4.heap.size w4 w12) := B411.out.trans (hb12.mono B411.out.size)
  clear hb12 CS B11 B411 CC RC CW RW h7 hbb
  obtain ⟨a1, c1, rfl, _⟩ := I1.out.arg
  obtain ⟨a3, c3, rfl⟩ := I3.out.cap
  have W1 : Hid (Wi w12 a1 fl.length) := ((((I1.out.below B12.out).below B23.out).below B34.out).below B412.out).wi rfl
  have O3 : Hid (Os w12 w2.heap.size (.slice a3 ll.length c3) uu ll) := (I3.out.below B34.out).below B412.out
  have I2' : Hid (Is w12 w1.heap.size v2 fl) := ((I2.out.below B23.out).below B34.out).below B412.out
  have I4' : Hid (Os w12 w3.heap.size v4 uu ll) := I4.out.below B412.out
  have L1 : Hid (∀ g, (Value.slice a1 fl.length c1).ownBlock = some g → w.heap.size ≤ g ∧ g < w1.heap.size) := fun g hg => I1.out.lt g hg
  have L3 : Hid (∀ g, (Value.slice a3 ll.length c3).ownBlock = some g → w2.heap.size ≤ g ∧ g < w3.heap.size) := fun g hg => I3.out.lt g hg
  have Z : Hid (w.heap.size ≤ w1.heap.size ∧ w1.heap.size ≤ w2.heap.size ∧ w2.heap.size ≤ w3.heap.size ∧ w3.heap.size ≤ w12.heap.size) := ⟨B1.out.size, B12.out.size, B23.out.size, Nat.le_trans B34.out.size B412.out.size⟩
  have L2 : Hid (∀ g, v2.ownBlock = some g → w1.heap.size ≤ g ∧ g < w2.heap.size) := fun g hg => I2.out.lt g hg
  clear I1 I2 I3 I4 B1 B2 B3 B4 B12 B23 B34 B412
  obtain ⟨nf, hnf⟩ : ∃ nf, fl.length = nf := ⟨_, rfl⟩
  obtain ⟨nl, hnl⟩ : ∃ nl, ll.length = nl := ⟨_, rfl⟩
  rw [hnf] at W1 L1 hfl ⊢
  rw [hnl] at O3 L3 ⊢
  have HNF : Hid (fl.length = nf) := hnf
  have HNL : Hid (ll.length = nl) := hnl
  have hnl4 : nl ≤ 4096 := by rw [← hnl]; exact hll
  clear hnf hnl
  go_wp2
  go_loopw [9] (fun z wr => ∃ j : Nat, j ≤ nf ∧ z = .int .i64 j ∧ Wi wr a1 nf ∧ w12.grownBy wr (Value.slice a1 nf c1).ownBlock) (fun z _ => nf - (B.iv z).toNat)
  case atStart => exact ⟨0, by omega, rfl, W1.out, World.grownBy.refl _ _⟩
  case round =>
    clear W1
    obtain ⟨j, hj, rfl, hw, hg⟩ := hrel
    have HW : Hid (Wi wr a1 nf) := hw
    have HG : Hid (w12.grownBy wr (Value.slice a1 nf c1).ownBlock) := hg
    clear hw hg
    by_cases hlt : j < nf
    · obtain ⟨g, rfl, hgl, ⟨a, hc⟩, hf⟩ := HW.out j hlt
      have HW2 : Hid (Wi (wr.setCell ⟨g, j, none⟩ (.int .i64 (-9))) (some ⟨g, 0, none⟩) nf) := HW.out.set j (-9)
      have HG2 : Hid (w12.grownBy (wr.setCell ⟨g, j, none⟩ (.int .i64 (-9))) (Value.slice (some ⟨g, 0, none⟩) nf c1).ownBlock) := HG.out.trans (B.grown_setCell' _ _ _ _)
      have hjI : (j : Int) < (nf : Int) := by omega
      clear HW HG
      go_wp2
      go_roundw
      case rel => exact ⟨j + 1, by omega, by go_num, HW2.out, HG2.out⟩
      case measure => simp [B.iv]; omega
    · obtain rfl : j = nf := by omega
      obtain ⟨w13, hw13⟩ : ∃ w13, wr = w13 := ⟨_, rfl⟩
      rw [hw13] at HW HG ⊢
      clear hw13 HW
      have W3 : Hid (Wo2 w13 a3 nl) := by
        have hz := Z.out
        refine Os.wo HNL.out (O3.out.of_eq (fun g hg => HG.out.block g (O3.out.lt g hg).2 (fun e => ?_)))
        have h1 := L1.out g e.symm
        have h2 := L3.out g hg
        omega
      go_wp2
      go_loopw [10] (fun z wr => ∃ i : Nat, i ≤ nl ∧ z = .int .i64 i ∧ Wo2 wr a3 nl ∧ w13.grownBy wr (Value.slice a3 nl c3).ownBlock) (fun z _ => nl - (B.iv z).toNat)
      case atStart => exact ⟨0, by omega, rfl, W3.out, World.grownBy.refl _ _⟩
      case round =>
        clear W3
        obtain ⟨i, hi, rfl, hw, hg⟩ := hrel
        have HW : Hid (Wo2 wr a3 nl) := hw
        have HG3 : Hid (w13.grownBy wr (Value.slice a3 nl c3).ownBlock) := hg
        clear hw hg
        by_cases hlt : i < nl
        · obtain ⟨g, rfl, hgl, ⟨a, hc⟩, ⟨b, hd⟩, hf, hf2⟩ := HW.out i hlt
          have HW2 : Hid (Wo2 ((wr.setCell ⟨g, i * 2, none⟩ (.int .i64 (-9))).setCell ⟨g, i * 2 + 1, none⟩ (.int .u8 0)) (some ⟨g, 0, none⟩) nl) := HW.out.set i (-9) 0
          have HG2 : Hid (w13.grownBy ((wr.setCell ⟨g, i * 2, none⟩ (.int .i64 (-9))).setCell ⟨g, i * 2 + 1, none⟩ (.int .u8 0)) (Value.slice (some ⟨g, 0, none⟩) nl c3).ownBlock) := (HG3.out.trans (B.grown_setCell' _ _ _ _)).trans (B.grown_setCell' _ _ _ _)
          have hjI : (i : Int) < (nl : Int) := by omega
          clear HW HG3
          go_wp2
          go_roundw
          case rel => exact ⟨i + 1, by omega, by go_num, HW2.out, HG2.out⟩
          case measure => simp [B.iv]; omega
        · obtain rfl : i = nl := by omega
          have hz := Z.out
          have be13 : Below w.heap.size w w13 := B12'.out.grown HG.out (by omega) (fun k hk => (L1.out k hk).1)
          have be14 : Below w.heap.size w wr := be13.grown HG3.out (by have := HG.out.size; omega) (fun k hk => by have := (L3.out k hk).1; omega)
          have B14 : Hid (Below w.heap.size w wr) := be14
          have J2 : Hid (Is wr w1.heap.size v2 fl) := by
            have q : Is w13 w1.heap.size v2 fl := I2'.out.of_eq (fun g hg => HG.out.block g (I2'.out.lt g hg).2 (fun e => by have := L1.out g e.symm; have := L2.out g hg; omega))
            exact q.of_eq (fun g hg => HG3.out.block g (q.lt g hg).2 (fun e => by have := L3.out g e.symm; have := L2.out g hg; omega))
          have J4 : Hid (Os wr w3.heap.size v4 uu ll) := by
            have q : Os w13 w3.heap.size v4 uu ll := I4'.out.of_eq (fun g hg => HG.out.block g (I4'.out.lt g hg).2 (fun e => by have := L1.out g e.symm; have := (I4'.out.lt g hg).1; omega))
            exact q.of_eq (fun g hg => HG3.out.block g (q.lt g hg).2 (fun e => by have := L3.out g e.symm; have := (q.lt g hg).1; omega))
          clear be13 be14 HW HG HG3 I2' I4' O3 L1 L2 L3 Z hz B12'
          go_wp2_with fail
          refine (RF.out _ B14.out).mono ?_
          rintro e w15 ⟨v15, rfl, hI15, hb15⟩
          have B15 : Hid (Below w.heap.size w w15) := B14.out.trans (hb15.mono B14.out.size)
          have CE : Hid (Calls _ _ _ _ _) := eq_is (by rw [HNF.out]; omega) (J2.out.below hb15) hI15
          have J4' : Hid (Os w15 w3.heap.size v4 uu ll) := J4.out.below hb15
          clear hI15 hb15 J2 J4 B14
          go_wp2_with fail
          refine CE.out.mono ?_
          rintro e w16 ⟨rfl, hb16⟩
          have B16 : Hid (Below w.heap.size w w16) := B15.out.trans (hb16.mono B15.out.size)
          have J5 : Hid (Os w16 w3.heap.size v4 uu ll) := J4'.out.below hb16
          clear hb16 CE B15 J4'
          go_wp2_with fail
          refine (RO.out _ B16.out).mono ?_
          rintro e w17 ⟨v17, rfl, hI17, hb17⟩
          have B17 : Hid (Below w.heap.size w w17) := B16.out.trans (hb17.mono B16.out.size)
          have CS : Hid (Calls _ _ _ _ _) := sameOwned_any hll (J5.out.below hb17) hI17
          clear hI17 hb17 B16 J5
          go_wp2_with fail
          refine CS.out.mono ?_
          rintro e w18 ⟨rfl, hb18⟩
          have B18 : Hid (Below w.heap.size w w18) := B17.out.trans (hb18.mono B17.out.size)
          clear hb18 CS B17
          go_wp2
          go_ret
          exact ⟨rfl, B18.out⟩
end Go.Proofs.YtifchflbhdnfaaaGreat.P
