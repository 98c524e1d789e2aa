/- The document's Gap over regions: what it answers; no condition but those named. -/
import Derived.Test.YtmhfgfgiiinpjaaXf
import Derived.Deep.DeepCutAuto
namespace Go.Proofs.Ytmhfgfgiiinpjaa.V
open Go.ChangeShapes Go.WideShapes Go.ChangeAt Go.RowKit
set_option linter.unusedVariables false
set_option maxRecDepth 8192

/-- The places that were looked at. -/
def Cd (l : List Rg) (f : Int) (k : Nat) (c : Int) : Prop := (0 < k ∧ c = f) ∨ ∃ (j : Nat) (hj : j < l.length), j + 1 < k ∧ c = l[j].e
theorem Cd.zero {l : List Rg} {f c : Int} : ¬ Cd l f 0 c := fun h => by
  rcases h with ⟨h, _⟩ | ⟨j, hj, h, _⟩
  · omega
  · omega
theorem Cd.one {l : List Rg} {f c : Int} (h : Cd l f 1 c) : Cd l f 0 c ∨ c = f := by
  rcases h with ⟨_, h⟩ | ⟨j, hj, h, _⟩
  · exact Or.inr h
  · omega
theorem Cd.more {l : List Rg} {f c : Int} {j : Nat} (hj : j < l.length) (h : Cd l f (j + 1 + 1) c) : Cd l f (j + 1) c ∨ c = l[j].e := by
  rcases h with ⟨_, h⟩ | ⟨i, hi, h, e⟩
  · exact Or.inl (Or.inl ⟨by omega, h⟩)
  · by_cases q : i = j
    · subst q; exact Or.inr e
    · exact Or.inl (Or.inr ⟨i, hi, by omega, e⟩)
theorem Cd.all {l : List Rg} {f c : Int} (h : c = f ∨ ∃ r ∈ l, c = r.e) : Cd l f (l.length + 1) c := by
  rcases h with h | ⟨r, hr, h⟩
  · exact Or.inl ⟨by omega, h⟩
  · obtain ⟨j, hj, e⟩ := List.getElem_of_mem hr
    exact Or.inr ⟨j, hj, by omega, by rw [e]; exact h⟩
set_option maxHeartbeats 4000000 in
theorem Gap_r {w : World} {ao : Option Addr} {cap : Nat} {l : List Rg} (h : Ri w ao cap l) (n f t : Int) :
    Calls Try.prog 29 #[.slice ao l.length cap, .int .i64 n, .int .i64 f, .int .i64 t] w (Ga w l n f t) := by
  have HC : Hid (Calls Try.prog 11 #[.slice ao l.length cap] w fun e w' => e = .returned (.int .i64 (chk l)) ∧ Below w.heap.size w w') := h.check_r
  have bad : ∀ c : Int, c = 2 ∨ c = 3 → chk l = c → Calls Try.prog 29 #[.slice ao l.length cap, .int .i64 n, .int .i64 f, .int .i64 t] w (Ga w l n f t) := fun c hc he => by
    have HG : Hid (GaS l n f t 0 false c) := gas_chk he (by omega)
    rw [he] at HC
    clear h he
    rcases hc with rfl | rfl
    all_goals
      go_enter Try.func29, Try.ntmps29
      go_wp2_with fail
      refine HC.out.mono ?_
      rintro e w1 ⟨rfl, b1⟩
      have HB1 : Hid (Below w.heap.size w w1) := b1
      clear b1
      go_wp2
      go_ret3
      exact ⟨0, false, _, rfl, HG.out, HB1.out⟩
  rcases chk_cases l with he | he | he
  case inr.inl => exact bad 2 (Or.inl rfl) he
  case inr.inr => exact bad 3 (Or.inr rfl) he
  clear bad
  have hM : May l := chk_may.1 he
  have CWi : Hid (∀ (x a b : Int) (w : World), Calls Try.prog 49 #[.int .i64 x, .int .i64 a, .int .i64 b] w fun e w' => e = .returned (.bool (decide (a ≤ x ∧ x ≤ b))) ∧ w' = w) := within_r
  have HGa : Hid (¬ ((1 ≤ n ∧ n ≤ 1048576) ∧ (0 ≤ f ∧ f ≤ 1048576) ∧ f ≤ t ∧ t ≤ 1048576) → GaS l n f t 0 false 2) := gas_arg he
  have HBg : Hid (∀ b, Bst l n f t (fun c => c = f ∨ ∃ r ∈ l, c = r.e) b → 1 ≤ n ∧ n ≤ 1048576 → 0 ≤ f ∧ f ≤ 1048576 → f ≤ t → t ≤ 1048576 → (b < 0 → GaS l n f t 0 false 0) ∧ (0 ≤ b → GaS l n f t b true 0)) := fun b hb h1 h2 h3 h4 => hb.gas hM h1 h2 h3 h4
  have HR : Hid (Rn w ao l) := h.rn
  have HS : Hid (Rs l) := hM.2.rs
  have hl := hM.1
  have HBt : Hid (∀ W P Q, Below w.heap.size w W → (0 ≤ P ∧ P ≤ 1048576) → (0 ≤ Q ∧ Q ≤ 2097152) → Calls Try.prog 41 #[.slice ao l.length cap, .int .i64 P, .int .i64 Q] W fun e w' => ∃ a c, e = .returned (.slice a (btw l P Q).length c) ∧ Below W.heap.size W w') := fun W P Q hW hP hQ => by
    refine (between_r (h.rn.below hW) hM.2.rs hM.1 P Q (by omega) (by omega)).mono ?_
    rintro e w' ⟨v, rfl, hr, hb⟩
    obtain ⟨a, c, rfl, _⟩ := hr.as
    exact ⟨a, c, rfl, hb⟩
  have HGp : Hid (∀ p, Gp l n f t p ↔ f ≤ p ∧ p ≤ t - n ∧ btw l p (p + n) = []) := fun p => gp_btw hM.2.rs
  rw [he] at HC
  clear h hM he
  go_enter Try.func29, Try.ntmps29
  go_wp2_with fail
  refine HC.out.mono ?_
  rintro e w1 ⟨rfl, b1⟩
  have HB1 : Hid (Below w.heap.size w w1) := b1
  clear b1 HC
  go_wp2_with fail
  refine (CWi.out _ _ _ _).mono ?_
  rintro e w2 ⟨rfl, rfl⟩
  by_cases hn : 1 ≤ n ∧ n ≤ 1048576
  case neg =>
    rw [decide_eq_false hn]
    have HF : Hid (GaS l n f t 0 false 2) := HGa.out (fun q => hn q.1)
    go_wp2
    go_ret3
    exact ⟨0, false, _, rfl, HF.out, HB1.out⟩
  case pos =>
    rw [decide_eq_true hn]
    go_wp2_with fail
    refine (CWi.out _ _ _ _).mono ?_
    rintro e w3 ⟨rfl, rfl⟩
    by_cases hf : 0 ≤ f ∧ f ≤ 1048576
    case neg =>
      rw [decide_eq_false hf]
      have HF : Hid (GaS l n f t 0 false 2) := HGa.out (fun q => hf q.2.1)
      go_wp2
      go_ret3
      exact ⟨0, false, _, rfl, HF.out, HB1.out⟩
    case pos =>
      rw [decide_eq_true hf]
      go_wp2_with fail
      refine (CWi.out _ _ _ _).mono ?_
      rintro e w4 ⟨rfl, rfl⟩
      by_cases ht : f ≤ t ∧ t ≤ 1048576
      case neg =>
        rw [decide_eq_false ht]
        have HF : Hid (GaS l n f t 0 false 2) := HGa.out (fun q => ht q.2.2)
        go_wp2
        go_ret3
        exact ⟨0, false, _, rfl, HF.out, HB1.out⟩
      case pos =>
        rw [decide_eq_true ht]
        obtain ⟨n1, n2⟩ := hn
        obtain ⟨f1, f2⟩ := hf
        obtain ⟨t1, t2⟩ := ht
        clear CWi HGa
        go_wp2_with fail
        go_loopw [12, 13] (fun o i wr => ∃ (k : Nat) (b : Int), k ≤ l.length + 1 ∧ i = .int .i64 ((k : Int) - 1) ∧ o = .int .i64 b ∧ -1 ≤ b ∧ b ≤ 1048576 ∧ Hid (Bst l n f t (Cd l f k) b) ∧ Below w.heap.size w wr) (fun _ i _ => (l.length - iv i).toNat)
        case atStart => exact ⟨0, -1, by omega, rfl, rfl, by omega, by omega, Or.inl ⟨rfl, fun c hc => absurd hc Cd.zero⟩, HB1.out⟩
        case round =>
          obtain ⟨k, b, hk, rfl, rfl, hb1, hb2, HBs, hb⟩ := hrel
          have HB : Hid (Below w.heap.size w wr) := hb
          by_cases hlt : k < l.length + 1
          case' neg =>
            obtain rfl : k = l.length + 1 := by omega
            have hx := HBg.out b (HBs.out.congr (fun c hc => Cd.all hc)) ⟨n1, n2⟩ ⟨f1, f2⟩ t1 t2
            have HN : Hid (b < 0 → GaS l n f t 0 false 0) := hx.1
            have HP : Hid (0 ≤ b → GaS l n f t b true 0) := hx.2
            clear hx hb
            have ix : ((l.length + 1 : Nat) : Int) - 1 = (l.length : Int) := by omega
            by_cases hbn : b < 0
            · have HF : Hid (GaS l n f t 0 false 0) := HN.out hbn
              go_wp2
              go_ret3
              exact ⟨0, false, 0, rfl, HF.out, HB.out⟩
            · have HF : Hid (GaS l n f t b true 0) := HP.out (Int.not_lt.1 hbn)
              have hd : decide (b < 0) = false := decide_eq_false hbn
              go_wp2
              go_ret3
              exact ⟨b, true, 0, rfl, HF.out, HB.out⟩
          case' pos =>
            clear HBg
            have ix0 : (k : Int) - 1 < (l.length : Int) := by omega
            have STEP : ∀ (P : Int), (∀ c, Cd l f (k + 1) c → Cd l f k c ∨ c = P) → Hid ((Gp l n f t P → 0 ≤ b ∧ b ≤ P) → Bst l n f t (Cd l f (k + 1)) b) ∧ Hid (Gp l n f t P → (0 ≤ b → P < b) → Bst l n f t (Cd l f (k + 1)) P) := fun P hC => ⟨fun hk => (HBs.out.keep hk).congr hC, fun hg hp => (HBs.out.take f1 hg hp).congr hC⟩
            have HGo : Hid (∀ P, 0 ≤ P → P ≤ 1048576 → (Gp l n f t P ↔ f ≤ P ∧ P ≤ t - n ∧ btw l P (P + n) = [])) := fun P _ _ => HGp.out P
            rcases k with _ | j
            case' zero =>
              have hst := STEP f (fun c hc => Cd.one hc)
              have HK : Hid ((Gp l n f t f → 0 ≤ b ∧ b ≤ f) → Bst l n f t (Cd l f (0 + 1)) b) := hst.1
              have HT : Hid (Gp l n f t f → (0 ≤ b → f < b) → Bst l n f t (Cd l f (0 + 1)) f) := hst.2
              have P1 : 0 ≤ f := f1
              have P2 : f ≤ 1048576 := f2
              have HGP : Hid (Gp l n f t f ↔ f ≤ f ∧ f ≤ t - n ∧ btw l f (f + n) = []) := HGp.out f
              have hi0 : (((0 : Nat) : Int) - 1) = -1 := rfl
              clear STEP hst hb HGo
              rw [hi0]
              go_upto_region 13 with fail
              by_cases h2 : t - n < f
              case' pos =>
                have d2 : decide (t - n < f) = true := decide_eq_true h2
                have HN : Hid (Bst l n f t (Cd l f (0 + 1)) b) := HK.out (fun g => by have := g.hi; omega)
                go_wp2
                go_roundw
                case rel => exact ⟨0 + 1, b, by omega, by first | rfl | go_num | (congr 1; omega), rfl, hb1, hb2, HN.out, HB.out⟩
                case measure => (simp [iv]; try omega)
              case' neg =>
              have d2 : decide (t - n < f) = false := decide_eq_false h2
              by_cases h3 : 0 ≤ b ∧ b ≤ f
              case' pos =>
                obtain ⟨h3, h4⟩ := h3
                have d3 : decide (0 ≤ b) = true := decide_eq_true h3
                have d4 : decide (b ≤ f) = true := decide_eq_true h4
                have HN : Hid (Bst l n f t (Cd l f (0 + 1)) b) := HK.out (fun g => ⟨h3, h4⟩)
                go_wp2
                go_roundw
                case rel => exact ⟨0 + 1, b, by omega, by first | rfl | go_num | (congr 1; omega), rfl, hb1, hb2, HN.out, HB.out⟩
                case measure => (simp [iv]; try omega)
              case' neg =>
              have HPb : Hid (0 ≤ b → f < b) := fun q => by omega
              have hbb : (b < 0 ∧ decide (0 ≤ b) = false) ∨ (0 ≤ b ∧ f < b ∧ decide (0 ≤ b) = true ∧ decide (b ≤ f) = false) := by
                by_cases q : 0 ≤ b
                · exact Or.inr ⟨q, HPb.out q, decide_eq_true q, decide_eq_false (by have := HPb.out q; omega)⟩
                · exact Or.inl ⟨by omega, decide_eq_false q⟩
              have hwr : IntKind.i64.wrap (f + n) = f + n := by rw [IntKind.wrap_i64]; omega
              clear h3
              rcases hbb with ⟨h3, d3⟩ | ⟨h3, h4, d3, d4⟩
              all_goals
                go_wp2_with fail
                refine (HBt.out wr f (f + n) HB.out ⟨P1, P2⟩ ⟨by omega, by omega⟩).mono ?_
                rintro e w9 ⟨a9, c9, rfl, b9⟩
                have HB9 : Hid (Below w.heap.size w w9) := bs HB.out b9
                clear b9
                cases hbt : btw l f (f + n) with
                | cons z0 zs =>
                  have HN : Hid (Bst l n f t (Cd l f (0 + 1)) b) := HK.out (fun g => by have := (HGP.out.1 g).2.2; rw [hbt] at this; exact absurd this nofun)
                  clear hbt
                  go_wp2
                  go_roundw
                  case rel => exact ⟨0 + 1, b, by omega, by first | rfl | go_num | (congr 1; omega), rfl, hb1, hb2, HN.out, HB9.out⟩
                  case measure => (simp [iv]; try omega)
                | nil =>
                  have HN : Hid (Bst l n f t (Cd l f (0 + 1)) (f)) := HT.out (HGP.out.2 ⟨by omega, by omega, hbt⟩) HPb.out
                  clear hbt
                  go_wp2
                  go_roundw
                  case rel => exact ⟨0 + 1, f, by omega, by first | rfl | go_num | (congr 1; omega), rfl, by omega, by omega, HN.out, HB9.out⟩
                  case measure => (simp [iv]; try omega)
            case' succ =>
              have hj : j < l.length := by omega
              have hst := STEP l[j].e (fun c hc => Cd.more hj hc)
              have HOk : l[j].Ok := HS.out.ok _ (List.getElem_mem hj)
              have hlt9 := HOk.lt
              have hee : l[j].e = l[j].p + l[j].n := rfl
              have hgp := HGp.out l[j].e
              obtain ⟨bb, off, rfl, _, hx⟩ := HR.out.idx hj
              obtain ⟨x0, x1, x2⟩ := hx wr hb
              rw [hee] at hst hgp hlt9
              generalize l[j] = r at *
              obtain ⟨rp, rn, rm⟩ := r
              simp only at x0 x1 x2 hst hgp hlt9
              obtain ⟨o1, o2, o3⟩ := hlt9
              obtain ⟨x, hxx⟩ : ∃ x, rp + rn = x := ⟨_, rfl⟩
              rw [hxx] at hst hgp o1 o3
              have hwr0 : IntKind.i64.wrap (rp + rn) = rp + rn := by rw [IntKind.wrap_i64]; omega
              have HK : Hid ((Gp l n f t x → 0 ≤ b ∧ b ≤ x) → Bst l n f t (Cd l f (j + 1 + 1)) b) := hst.1
              have HT : Hid (Gp l n f t x → (0 ≤ b → x < b) → Bst l n f t (Cd l f (j + 1 + 1)) x) := hst.2
              have P1 : 0 ≤ x := by omega
              have P2 : x ≤ 1048576 := by omega
              have HGP : Hid (Gp l n f t x ↔ f ≤ x ∧ x ≤ t - n ∧ btw l x (x + n) = []) := hgp
              have hi0 : (((j + 1 : Nat) : Int) - 1) = (j : Int) := by omega
              have ix1 : (0 : Int) ≤ (j : Int) := Int.natCast_nonneg j
              have ix2 : (j : Int) < (l.length : Int) := Int.ofNat_lt.2 hj
              clear STEP hst hb HGo hgp hx HOk hee
              rw [hi0]
              go_wp2_with fail
              go_quiet (fail)

              have HBq : Hid (Below w.heap.size w (wr.drewN nq)) := bdn HB.out _
              clear x0 x1 x2 hwr0
              go_upto_region 13 with fail
              by_cases h1 : x < f
              case' pos =>
                have d1 : decide (x < f) = true := decide_eq_true h1
                have HN : Hid (Bst l n f t (Cd l f ((j + 1) + 1)) b) := HK.out (fun g => by have := g.lo; omega)
                go_wp2
                go_roundw
                case rel => exact ⟨(j + 1) + 1, b, by omega, by first | rfl | go_num | (congr 1; omega), rfl, hb1, hb2, HN.out, HBq.out⟩
                case measure => (simp [iv]; try omega)
              case' neg =>
              have d1 : decide (x < f) = false := decide_eq_false h1
              by_cases h2 : t - n < x
              case' pos =>
                have d2 : decide (t - n < x) = true := decide_eq_true h2
                have HN : Hid (Bst l n f t (Cd l f ((j + 1) + 1)) b) := HK.out (fun g => by have := g.hi; omega)
                go_wp2
                go_roundw
                case rel => exact ⟨(j + 1) + 1, b, by omega, by first | rfl | go_num | (congr 1; omega), rfl, hb1, hb2, HN.out, HBq.out⟩
                case measure => (simp [iv]; try omega)
              case' neg =>
              have d2 : decide (t - n < x) = false := decide_eq_false h2
              by_cases h3 : 0 ≤ b ∧ b ≤ x
              case' pos =>
                obtain ⟨h3, h4⟩ := h3
                have d3 : decide (0 ≤ b) = true := decide_eq_true h3
                have d4 : decide (b ≤ x) = true := decide_eq_true h4
                have HN : Hid (Bst l n f t (Cd l f ((j + 1) + 1)) b) := HK.out (fun g => ⟨h3, h4⟩)
                go_wp2
                go_roundw
                case rel => exact ⟨(j + 1) + 1, b, by omega, by first | rfl | go_num | (congr 1; omega), rfl, hb1, hb2, HN.out, HBq.out⟩
                case measure => (simp [iv]; try omega)
              case' neg =>
              have HPb : Hid (0 ≤ b → x < b) := fun q => by omega
              have hbb : (b < 0 ∧ decide (0 ≤ b) = false) ∨ (0 ≤ b ∧ x < b ∧ decide (0 ≤ b) = true ∧ decide (b ≤ x) = false) := by
                by_cases q : 0 ≤ b
                · exact Or.inr ⟨q, HPb.out q, decide_eq_true q, decide_eq_false (by have := HPb.out q; omega)⟩
                · exact Or.inl ⟨by omega, decide_eq_false q⟩
              have hwr : IntKind.i64.wrap (x + n) = x + n := by rw [IntKind.wrap_i64]; omega
              clear h3
              rcases hbb with ⟨h3, d3⟩ | ⟨h3, h4, d3, d4⟩
              all_goals
                go_wp2_with fail
                refine (HBt.out (wr.drewN nq) x (x + n) HBq.out ⟨P1, P2⟩ ⟨by omega, by omega⟩).mono ?_
                rintro e w9 ⟨a9, c9, rfl, b9⟩
                have HB9 : Hid (Below w.heap.size w w9) := bs HBq.out b9
                clear b9
                cases hbt : btw l x (x + n) with
                | cons z0 zs =>
                  have HN : Hid (Bst l n f t (Cd l f ((j + 1) + 1)) b) := HK.out (fun g => by have := (HGP.out.1 g).2.2; rw [hbt] at this; exact absurd this nofun)
                  clear hbt
                  go_wp2
                  go_roundw
                  case rel => exact ⟨(j + 1) + 1, b, by omega, by first | rfl | go_num | (congr 1; omega), rfl, hb1, hb2, HN.out, HB9.out⟩
                  case measure => (simp [iv]; try omega)
                | nil =>
                  have HN : Hid (Bst l n f t (Cd l f ((j + 1) + 1)) (x)) := HT.out (HGP.out.2 ⟨by omega, by omega, hbt⟩) HPb.out
                  clear hbt
                  go_wp2
                  go_roundw
                  case rel => exact ⟨(j + 1) + 1, x, by omega, by first | rfl | go_num | (congr 1; omega), rfl, by omega, by omega, HN.out, HB9.out⟩
                  case measure => (simp [iv]; try omega)
end Go.Proofs.Ytmhfgfgiiinpjaa.V
