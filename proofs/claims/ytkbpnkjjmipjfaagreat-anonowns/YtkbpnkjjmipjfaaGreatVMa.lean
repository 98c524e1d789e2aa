/- Which place a buddy tells next, by what is open alone; no condition but those that each theorem names. -/
import Derived.Test.YtkbpnkjjmipjfaaGreatVGx
import Derived.Test.YtkbpnkjjmipjfaaGreatVGz
namespace Go.Proofs.YtkbpnkjjmipjfaaGreat.P
open B
set_option linter.unusedVariables false

def Nx (op : Nat → Bool) (o a : Nat) : Prop := ∃ k, o ≤ k ∧ k ≤ 6 ∧ (∀ i, o ≤ i → i < k → ∀ q, ¬ mx op i q) ∧ a % 2 ^ k = 0 ∧ mx op k (a / 2 ^ k) ∧ ∀ q, mx op k q → a / 2 ^ k ≤ q
theorem take_case (L : Nat → List Nat) (o : Nat) : (∀ i, o ≤ i → i ≤ 6 → L i = []) ∨ ∃ k a r, o ≤ k ∧ k ≤ 6 ∧ (∀ i, o ≤ i → i < k → L i = []) ∧ L k = a :: r := by
  by_cases h : ∃ k, o ≤ k ∧ k ≤ 6 ∧ L k ≠ []
  · right
    obtain ⟨k, h1, h2, h3⟩ := h
    have key : ∀ d, ∀ k, k = o + d → k ≤ 6 → L k ≠ [] → ∃ k a r, o ≤ k ∧ k ≤ 6 ∧ (∀ i, o ≤ i → i < k → L i = []) ∧ L k = a :: r := by
      intro d
      induction d using Nat.strongRecOn with
      | _ d ih =>
        intro k e hk hL
        by_cases q : ∃ i, o ≤ i ∧ i < k ∧ L i ≠ []
        · obtain ⟨i, q1, q2, q3⟩ := q
          exact ih (i - o) (by omega) i (by omega) (by omega) q3
        · cases hl : L k with
          | nil => exact absurd hl hL
          | cons a r =>
            refine ⟨k, a, r, by omega, hk, fun i q1 q2 => ?_, hl⟩
            by_cases q4 : L i = []
            · exact q4
            · exact absurd ⟨i, q1, q2, q4⟩ q
    exact key (k - o) k (by omega) h2 h3
  · left
    intro i h1 h2
    by_cases q : L i = []
    · exact q
    · exact absurd ⟨i, h1, h2, q⟩ h
theorem empty_mx {n : Nat} {op : Nat → Bool} {L : Nat → List Nat} {tk : Nat → Option Nat} (h : St n op L tk) {i : Nat} (hi : i ≤ 6) (he : L i = []) (q : Nat) : ¬ mx op i q := fun hq => by
  have := ((h.fit i hi).2 (q * 2 ^ i)).2 ⟨mul_mod _ _, by rw [mul_div]; exact hq⟩
  rw [he] at this
  simp at this
theorem st_nx {n : Nat} {op : Nat → Bool} {L : Nat → List Nat} {tk : Nat → Option Nat} (h : St n op L tk) {o k a : Nat} {r : List Nat} (ho : o ≤ k) (hk : k ≤ 6) (he : ∀ i, o ≤ i → i < k → L i = []) (hL : L k = a :: r) : Nx op o a := by
  obtain ⟨h1, h2, h3⟩ := h.head hk hL
  refine ⟨k, ho, hk, fun i q1 q2 => empty_mx h (by omega) (he i q1 q2), h1, h2, fun q hq => ?_⟩
  have hF := h.fit k hk
  have hm := (hF.2 (q * 2 ^ k)).2 ⟨mul_mod _ _, by rw [mul_div]; exact hq⟩
  have hp := hF.1
  rw [hL] at hm hp
  have : a ≤ q * 2 ^ k := by
    rcases List.mem_cons.1 hm with e | e
    · omega
    · exact Nat.le_of_lt ((List.pairwise_cons.1 hp).1 _ e)
  rw [← mod_mul_div h1] at this
  exact Nat.le_of_mul_le_mul_right this (Nat.two_pow_pos k)
theorem st_no_nx {n : Nat} {op : Nat → Bool} {L : Nat → List Nat} {tk : Nat → Option Nat} (h : St n op L tk) {o : Nat} (he : ∀ i, o ≤ i → i ≤ 6 → L i = []) (a : Nat) : ¬ Nx op o a := by
  rintro ⟨k, h1, h2, _, _, h5, _⟩
  exact empty_mx h h2 (he k h1 h2) _ h5
theorem nx_of_wh {n : Nat} {op : Nat → Bool} {L : Nat → List Nat} {tk : Nat → Option Nat} (h : St n op L tk) {o q : Nat} (ho : o ≤ 6) (hw : wh op o q) : ∃ a, Nx op o a := by
  obtain ⟨j, h1, h2, h3⟩ := climb (6 - o) o q (by omega) hw
  rcases take_case L o with he | ⟨k, a, r, q1, q2, q3, q4⟩
  · exact absurd h3 (empty_mx h h2 (he j h1 h2) _)
  · exact ⟨a, st_nx h q1 q2 q3 q4⟩
theorem nx_of_open {n : Nat} {op : Nat → Bool} {L : Nat → List Nat} {tk : Nat → Option Nat} (h : St n op L tk) {x : Nat} (hx : op x = true) : ∃ a, Nx op 0 a :=
  nx_of_wh h (q := x) (by omega) (fun i hi => by rw [Nat.pow_zero, Nat.div_one] at hi; rw [hi]; exact hx)
theorem Nx.wh {op : Nat → Bool} {o a : Nat} (h : Nx op o a) : wh op o (a / 2 ^ o) ∧ a % 2 ^ o = 0 := by
  obtain ⟨k, h1, h2, h3, h4, h5, h6⟩ := h
  exact ⟨wh_down h5.1 h1 (div_up a o k h1).symm, pow_dvd_mod h4 h1⟩
theorem Nx.open {op : Nat → Bool} {a : Nat} (h : Nx op 0 a) : op a = true := h.wh.1 a rfl
theorem cnt_le (op : Nat → Bool) : ∀ n, cnt op n ≤ n
  | 0 => Nat.le_refl _
  | n + 1 => by
    have := cnt_le op n
    rw [cnt]
    split <;> omega
theorem cnt_pos {op : Nat → Bool} : ∀ {n : Nat}, 0 < cnt op n → ∃ x, x < n ∧ op x = true
  | 0, h => by simp [cnt] at h
  | n + 1, h => by
    by_cases e : op n = true
    · exact ⟨n, by omega, e⟩
    · rw [cnt, if_neg e] at h
      obtain ⟨x, h1, h2⟩ := cnt_pos (n := n) (by omega)
      exact ⟨x, by omega, h2⟩
theorem st_len {n : Nat} {op : Nat → Bool} {L : Nat → List Nat} {tk : Nat → Option Nat} (h : St n op L tk) (hn : n ≤ 4096) : ∀ i, i < 7 → (L i).length ≤ 4096 := by
  have h1 := h.cn
  have h2 := cnt_le op n
  rw [h1] at h2
  unfold fr at h2
  intro i hi
  rcases six (show i ≤ 6 by omega) with rfl | rfl | rfl | rfl | rfl | rfl | rfl <;> omega
end Go.Proofs.YtkbpnkjjmipjfaaGreat.P
namespace Go.Proofs.YtkbpnkjjmipjfaaGreat.P
open B
set_option linter.unusedVariables false

structure Par where
  C : Nat
  N : Nat
  k : Nat
  f : Nat → Nat
  o : Nat
  q : Nat → Nat
structure Par.Ok (P : Par) : Prop where
  C1 : 1 ≤ P.C
  C2 : P.C ≤ 16
  NF : P.N * P.C ≤ 4096
  k1 : 1 ≤ P.k
  k2 : P.k ≤ 16
  fC : ∀ i, i < P.k → P.f i < P.C
  inj : ∀ i j, i < P.k → j < P.k → P.f i = P.f j → i = j
  o3 : P.o ≤ 3
  im : 2 ^ P.o ≤ P.N
  qm : ∀ u, P.q u ≤ 4096
  sum : 2 ^ P.o + P.q 2 + P.q 3 + P.q 4 + P.q 5 + P.q 6 ≤ P.k * P.N
theorem Par.Ok.N2 {P : Par} (h : P.Ok) : P.N ≤ 4096 := by
  have h1 := Nat.mul_le_mul_left P.N h.C1
  have h2 := h.NF
  omega
def fm (P : Par) (i x : Nat) : Nat := x * P.C + P.f i
theorem fm_div {P : Par} {i : Nat} (h : P.f i < P.C) (x : Nat) : fm P i x / P.C = x := by
  unfold fm
  rw [Nat.add_comm, Nat.add_mul_div_right _ _ (by omega), Nat.div_eq_of_lt h, Nat.zero_add]
theorem fm_mod {P : Par} {i : Nat} (h : P.f i < P.C) (x : Nat) : fm P i x % P.C = P.f i := by
  unfold fm
  rw [Nat.add_comm, Nat.add_mul_mod_self_right, Nat.mod_eq_of_lt h]
theorem fm_inj {P : Par} (h : P.Ok) {i j x y : Nat} (hi : i < P.k) (hj : j < P.k) (e : fm P i x = fm P j y) : i = j ∧ x = y := by
  have h1 := fm_div (h.fC i hi) x
  have h2 := fm_mod (h.fC i hi) x
  rw [e, fm_div (h.fC j hj)] at h1
  rw [e, fm_mod (h.fC j hj)] at h2
  exact ⟨h.inj i j hi hj h2.symm, h1.symm⟩
theorem fm_lt {P : Par} (h : P.Ok) {i x : Nat} (hi : i < P.k) (hx : x < P.N) : fm P i x < 4096 := by
  have h1 := Nat.mul_le_mul_right P.C (show x + 1 ≤ P.N from hx)
  have h2 := h.NF
  have h3 := h.fC i hi
  rw [Nat.add_mul] at h1
  unfold fm
  omega
abbrev Us := Nat → Option Nat
def opn (P : Par) (us : Us) (i : Nat) : Nat → Bool := fun x => decide (x < P.N) && (us (fm P i x)).isNone
theorem opn_iff {P : Par} {us : Us} {i x : Nat} : opn P us i x = true ↔ x < P.N ∧ us (fm P i x) = none := by simp [opn]
def fre (P : Par) (us : Us) (i : Nat) : Nat := cnt (opn P us i) P.N
theorem fre_le (P : Par) (us : Us) (i : Nat) : fre P us i ≤ P.N := cnt_le _ _
def cU (us : Us) (u : Nat) : Nat → Nat
  | 0 => 0
  | n + 1 => cU us u n + if us n = some u then 1 else 0
theorem cU_le (us : Us) (u : Nat) : ∀ n, cU us u n ≤ n
  | 0 => Nat.le_refl _
  | n + 1 => by
    have := cU_le us u n
    rw [cU]
    split <;> omega
theorem cU_none (u : Nat) : ∀ n, cU (fun _ => none) u n = 0
  | 0 => rfl
  | n + 1 => by rw [cU, cU_none u n]; simp
theorem cU_far {us : Us} {g : Nat} (v : Option Nat) (u : Nat) : ∀ {n}, n ≤ g → cU (pt us g v) u n = cU us u n
  | 0, _ => rfl
  | n + 1, h => by
    rw [cU, cU, cU_far v u (by omega)]
    have : n ≠ g := by omega
    simp [pt, this]
theorem cU_take {us : Us} {g : Nat} (hg : us g = none) (v u : Nat) : ∀ {n}, g < n → cU (pt us g (some v)) u n = cU us u n + if u = v then 1 else 0
  | 0, h => by omega
  | n + 1, h => by
    rw [cU, cU]
    by_cases e : n = g
    · subst e
      rw [cU_far _ _ (Nat.le_refl _)]
      simp [pt, hg, eq_comm]
    · rw [cU_take hg v u (by omega)]
      simp [pt, e]
      omega
theorem cU_give {us : Us} {g v : Nat} (hg : us g = some v) (u : Nat) : ∀ {n}, g < n → cU (pt us g none) u n + (if u = v then 1 else 0) = cU us u n
  | 0, h => by omega
  | n + 1, h => by
    rw [cU, cU]
    by_cases e : n = g
    · subst e
      rw [cU_far _ _ (Nat.le_refl _)]
      simp [pt, hg, eq_comm]
    · have := cU_give hg u (n := n) (by omega)
      simp [pt, e]
      omega
def tU (us : Us) : Nat := cU us 1 4096 + cU us 2 4096 + cU us 3 4096 + cU us 4 4096 + cU us 5 4096 + cU us 6 4096
def sf (P : Par) (us : Us) : Nat → Nat
  | 0 => 0
  | j + 1 => sf P us j + fre P us j
theorem sf_ext {P : Par} {us us' : Us} : ∀ {j}, (∀ i, i < j → fre P us i = fre P us' i) → sf P us j = sf P us' j
  | 0, _ => rfl
  | j + 1, h => by rw [sf, sf, sf_ext (fun i hi => h i (by omega)), h j (by omega)]
theorem sf_one {P : Par} {us us' : Us} {i d : Nat} (hi : fre P us' i + d = fre P us i) : ∀ {j}, i < j → (∀ m, m < j → m ≠ i → fre P us' m = fre P us m) → sf P us' j + d = sf P us j
  | 0, h, _ => by omega
  | j + 1, h, ho => by
    rw [sf, sf]
    by_cases e : i = j
    · subst e
      rw [sf_ext (fun m hm => ho m (by omega) (by omega))]
      omega
    · have := sf_one hi (j := j) (by omega) (fun m hm => ho m (by omega))
      rw [ho j (by omega) (by omega)]
      omega
structure Va (P : Par) (us : Us) : Prop where
  us1 : ∀ g u, us g = some u → 1 ≤ u ∧ u ≤ 6 ∧ ∃ i x, i < P.k ∧ x < P.N ∧ g = fm P i x
  im : cU us 1 4096 = 0 ∨ cU us 1 4096 = 2 ^ P.o
  qu : ∀ u, 2 ≤ u → u ≤ 6 → cU us u 4096 ≤ P.q u
  tot : sf P us P.k + tU us = P.k * P.N
theorem opn_new (P : Par) (i : Nat) : opn P (fun _ => none) i = op0 P.N := by
  funext x
  simp [opn, op0]
theorem fre_new (P : Par) (i : Nat) : fre P (fun _ => none) i = P.N := by
  unfold fre
  rw [opn_new, cnt_op0 _ _ (Nat.le_refl _)]
theorem sf_new (P : Par) : ∀ j, sf P (fun _ => none) j = j * P.N
  | 0 => by simp [sf]
  | j + 1 => by rw [sf, sf_new P j, fre_new, Nat.add_mul, Nat.one_mul]
theorem va_new (P : Par) : Va P (fun _ => none) :=
  ⟨fun g u h => by simp at h, Or.inl (cU_none _ _), fun u _ _ => by rw [cU_none]; omega, by rw [sf_new]; simp [tU, cU_none]⟩
theorem opn_same {P : Par} (h : P.Ok) {us : Us} {i a : Nat} (hi : i < P.k) (u : Nat) : opn P (pt us (fm P i a) (some u)) i = shut (opn P us i) 0 a := by
  funext x
  unfold opn shut pt
  rw [Nat.pow_zero, Nat.div_one]
  by_cases e : x = a
  · subst e
    simp
  · have : fm P i x ≠ fm P i a := fun q => e (fm_inj h hi hi q).2
    simp [e, this]
theorem opn_other {P : Par} (h : P.Ok) {us : Us} {i j a : Nat} (hi : i < P.k) (hj : j < P.k) (hne : j ≠ i) (v : Option Nat) : opn P (pt us (fm P i a) v) j = opn P us j := by
  funext x
  unfold opn pt
  have : fm P j x ≠ fm P i a := fun q => hne (fm_inj h hj hi q).1
  simp [this]
theorem opn_back {P : Par} (h : P.Ok) {us : Us} {i a : Nat} (hi : i < P.k) (ha : a < P.N) : opn P (pt us (fm P i a) none) i = opened (opn P us i) 0 a := by
  funext x
  unfold opn opened pt
  rw [Nat.pow_zero, Nat.div_one]
  by_cases e : x = a
  · subst e
    simp [ha]
  · have : fm P i x ≠ fm P i a := fun q => e (fm_inj h hi hi q).2
    simp [e, this]
theorem wh_zero {op : Nat → Bool} {a : Nat} (h : op a = true) : wh op 0 a := fun i hi => by
  rw [Nat.pow_zero, Nat.div_one] at hi
  rw [hi]
  exact h
theorem fre_take {P : Par} (h : P.Ok) {us : Us} {i a : Nat} (hi : i < P.k) (ha : opn P us i a = true) (u : Nat) : fre P (pt us (fm P i a) (some u)) i + 1 = fre P us i := by
  have hn := (opn_iff.1 ha).1
  unfold fre
  rw [opn_same h hi u]
  have := cnt_cut (n := P.N) (wh_zero ha) (by rw [Nat.pow_zero]; omega)
  simpa using this
theorem fre_other {P : Par} (h : P.Ok) {us : Us} {i j a : Nat} (hi : i < P.k) (hj : j < P.k) (hne : j ≠ i) (v : Option Nat) : fre P (pt us (fm P i a) v) j = fre P us j := by
  unfold fre
  rw [opn_other h hi hj hne]
theorem pt_back {us : Us} {g u : Nat} (h : us g = some u) : pt (pt us g none) g (some u) = us := by
  funext x
  unfold pt
  by_cases e : x = g
  · subst e
    simp [h]
  · simp [e]
theorem fre_give {P : Par} (h : P.Ok) {us : Us} {i a u : Nat} (hi : i < P.k) (ha : a < P.N) (hu : us (fm P i a) = some u) : fre P (pt us (fm P i a) none) i = fre P us i + 1 := by
  have := fre_take h (us := pt us (fm P i a) none) (i := i) (a := a) hi (opn_iff.2 ⟨ha, by simp [pt]⟩) u
  rw [pt_back hu] at this
  omega
theorem Va.take {P : Par} (hP : P.Ok) {us : Us} (h : Va P us) {i a u : Nat} (hi : i < P.k) (ha : opn P us i a = true) (h2 : 2 ≤ u) (h6 : u ≤ 6) (hq : cU us u 4096 < P.q u) : Va P (pt us (fm P i a) (some u)) := by
  obtain ⟨hn, hg⟩ := opn_iff.1 ha
  have hlt := fm_lt hP hi hn
  have hc := fun v => cU_take hg u v hlt
  refine ⟨fun g v hv => ?_, ?_, fun v q1 q2 => ?_, ?_⟩
  · unfold pt at hv
    by_cases e : g = fm P i a
    · rw [if_pos e] at hv
      cases hv
      exact ⟨by omega, h6, i, a, hi, hn, e⟩
    · rw [if_neg e] at hv
      exact h.us1 g v hv
  · rw [hc 1, if_neg (by omega), Nat.add_zero]
    exact h.im
  · rw [hc v]
    have := h.qu v q1 q2
    split
    · rename_i e
      subst e
      omega
    · omega
  · have h1 := sf_one (fre_take hP hi ha u) hi (fun m hm hne => fre_other hP hi hm hne _)
    have h3 := h.tot
    unfold tU at *
    rw [hc, hc, hc, hc, hc, hc]
    rcases (show u = 2 ∨ u = 3 ∨ u = 4 ∨ u = 5 ∨ u = 6 by omega) with rfl | rfl | rfl | rfl | rfl <;> simp <;> omega
theorem Va.give {P : Par} (hP : P.Ok) {us : Us} (h : Va P us) {i a u : Nat} (hi : i < P.k) (ha : a < P.N) (hu : us (fm P i a) = some u) (h2 : 2 ≤ u) : Va P (pt us (fm P i a) none) := by
  have hlt := fm_lt hP hi ha
  have h6 := (h.us1 _ _ hu).2.1
  have hc := fun v => cU_give hu v hlt
  have c1 := hc 1
  rw [if_neg (by omega)] at c1
  refine ⟨fun g v hv => ?_, ?_, fun v q1 q2 => ?_, ?_⟩
  · unfold pt at hv
    split at hv
    · cases hv
    · exact h.us1 g v hv
  · have := h.im
    omega
  · have := h.qu v q1 q2
    have := hc v
    omega
  · have h1 := sf_one (us := pt us (fm P i a) none) (us' := us) (i := i) (d := 1) (fre_give hP hi ha hu).symm hi (fun m hm hne => (fre_other hP hi hm hne _).symm)
    have h3 := h.tot
    have c2 := hc 2
    have c3 := hc 3
    have c4 := hc 4
    have c5 := hc 5
    have c6 := hc 6
    clear hc
    unfold tU at *
    rcases (show u = 2 ∨ u = 3 ∨ u = 4 ∨ u = 5 ∨ u = 6 by omega) with rfl | rfl | rfl | rfl | rfl <;> simp at c2 c3 c4 c5 c6 <;> omega
structure Room (P : Par) (us : Us) (a m : Nat) : Prop where
  le : a + m ≤ P.N
  free : ∀ t, t < m → us (fm P 0 (a + t)) = none
def bs (v : Nat → Nat) : Nat → Nat
  | 0 => 0
  | j + 1 => if v (bs v j) < v (j + 1) then j + 1 else bs v j
theorem bs_le (v : Nat → Nat) : ∀ j, bs v j ≤ j
  | 0 => Nat.le_refl _
  | j + 1 => by
    have := bs_le v j
    rw [bs]
    split <;> omega
theorem bs_max (v : Nat → Nat) : ∀ j i, i ≤ j → v i ≤ v (bs v j)
  | 0, i, h => by
    obtain rfl : i = 0 := by omega
    exact Nat.le_refl _
  | j + 1, i, h => by
    rw [bs]
    by_cases e : v (bs v j) < v (j + 1)
    · rw [if_pos e]
      by_cases q : i = j + 1
      · rw [q]; omega
      · have := bs_max v j i (by omega)
        omega
    · rw [if_neg e]
      by_cases q : i = j + 1
      · rw [q]; omega
      · exact bs_max v j i (by omega)
def best (P : Par) (us : Us) : Nat := bs (fre P us) (P.k - 1)
theorem best_lt {P : Par} (h : P.Ok) (us : Us) : best P us < P.k := by
  have := bs_le (fre P us) (P.k - 1)
  have := h.k1
  unfold best
  omega
theorem best_max {P : Par} (us : Us) {i : Nat} (hi : i < P.k) : fre P us i ≤ fre P us (best P us) := bs_max _ _ _ (by omega)
theorem sf_pos {P : Par} {us : Us} : ∀ {j}, 0 < sf P us j → ∃ i, i < j ∧ 0 < fre P us i
  | 0, h => by simp [sf] at h
  | j + 1, h => by
    by_cases e : 0 < fre P us j
    · exact ⟨j, by omega, e⟩
    · rw [sf] at h
      obtain ⟨i, h1, h2⟩ := sf_pos (P := P) (us := us) (j := j) (by omega)
      exact ⟨i, by omega, h2⟩
theorem Va.some_free {P : Par} (hP : P.Ok) {us : Us} (h : Va P us) {u : Nat} (h2 : 2 ≤ u) (h6 : u ≤ 6) (hq : cU us u 4096 < P.q u) : 0 < fre P us (best P us) := by
  have h1 := h.tot
  have q2 := h.qu 2 (by omega) (by omega)
  have q3 := h.qu 3 (by omega) (by omega)
  have q4 := h.qu 4 (by omega) (by omega)
  have q5 := h.qu 5 (by omega) (by omega)
  have q6 := h.qu 6 (by omega) (by omega)
  have hs := hP.sum
  have hi : cU us 1 4096 ≤ 2 ^ P.o := by
    have := h.im
    have := Nat.two_pow_pos P.o
    omega
  unfold tU at h1
  have : 0 < sf P us P.k := by
    rcases (show u = 2 ∨ u = 3 ∨ u = 4 ∨ u = 5 ∨ u = 6 by omega) with rfl | rfl | rfl | rfl | rfl <;> omega
  obtain ⟨i, h3, h4⟩ := sf_pos this
  have := best_max us h3
  omega
theorem Va.best_open {P : Par} (hP : P.Ok) {us : Us} (h : Va P us) {u : Nat} (h2 : 2 ≤ u) (h6 : u ≤ 6) (hq : cU us u 4096 < P.q u) : ∃ x, opn P us (best P us) x = true := by
  obtain ⟨x, _, hx⟩ := cnt_pos (h.some_free hP h2 h6 hq)
  exact ⟨x, hx⟩
end Go.Proofs.YtkbpnkjjmipjfaaGreat.P
namespace Go.Proofs.YtkbpnkjjmipjfaaGreat.P
open B Go.ChangeShapes Go.WideShapes Go.ChangeAt Go.RowKit
set_option linter.unusedVariables false

def uv (h : Nat) : Value := .int .u8 h
theorem key_all (j : Int) (h0 : -9223372036854775808 ≤ j) (h1 : j ≤ 9223372036854775807) : keyOf Tryz.prog 3 (.int .i64 j) = some (.int .i64 j) :=
  Maps.keyOf_int_mk Tryz.underlying3 (by simp [Lit.wf, IntKind.min, IntKind.max, IntKind.bits, IntKind.signed]; omega)
theorem Tryz.zeroU : (Tryz.prog.info? 5).map (fun i => (i.zero, i.size)) = some (some (.int .u8 0), 1) := by kernel_rfl
structure Vu (D : DataW Value) (N : Nat) (m : Nat → Option Nat) : Prop where
  has : ∀ k : Int, Maps.has D (.int .i64 k) = true ↔ ∃ (j : Nat) (h : Nat), k = j ∧ m j = some h
  at' : ∀ (j : Nat) h, m j = some h → ∀ z, D.atKey (.int .i64 j) z = .held (uv h)
  lt : ∀ j h, m j = some h → j < N ∧ h ≤ 6
def Mu (w : World) (b N : Nat) (m : Nat → Option Nat) : Prop := ∃ D, w.ownsMap Tryz.prog 3 Rv b N D ∧ Vu D N m
theorem Mu.lt {w : World} {b N : Nat} {m : Nat → Option Nat} (h : Mu w b N m) : b < w.heap.size := by
  obtain ⟨D, ho, _⟩ := h
  exact ho.lt
theorem Mu.ok {w : World} {b N : Nat} {m : Nat → Option Nat} (h : Mu w b N m) {j : Nat} {u : Nat} (e : m j = some u) : j < N ∧ u ≤ 6 := by
  obtain ⟨D, ho, hv⟩ := h
  exact hv.lt j u e
theorem mu_new (w : World) (N : Nat) : Mu (w.alloc (.map #[] 0)) w.heap.size N (fun _ => none) :=
  ⟨_, (World.ownsMap_made w Tryz.prog 3 Rv).mono (Nat.zero_le _), ⟨fun k => by simp [Maps.has], fun j h e => by simp at e, fun j h e => by simp at e⟩⟩
theorem mem_mu {D : DataW Value} {N : Nat} {m : Nat → Option Nat} (v : Vu D N m) (x : Int) : x ∈ usI N m ↔ Maps.has D (.int .i64 x) = true := by
  rw [v.has x]
  simp only [usI, us, List.mem_map, List.mem_filter, List.mem_range]
  constructor
  · rintro ⟨j, ⟨h1, h2⟩, rfl⟩
    obtain ⟨h, e⟩ := Option.isSome_iff_exists.1 h2
    exact ⟨j, h, rfl, e⟩
  · rintro ⟨j, h, rfl, e⟩
    exact ⟨j, ⟨(v.lt j h e).1, by rw [e]; rfl⟩, rfl⟩
theorem keys_mu {w : World} {b n N : Nat} {D : DataW Value} {m : Nat → Option Nat} (ho : w.ownsMap Tryz.prog 3 Rv b n D) (v : Vu D N m) : (usI N m).Perm (intKeys D) := by
  obtain ⟨es, hD, hpw, _⟩ := ho.entries keyed
  obtain ⟨es', hD', hko⟩ := ho.keysOf
  obtain rfl : es = es' := by rw [hD] at hD'; simpa using hD'
  subst hD
  exact perm_intKeys hpw (fun p hp => by obtain ⟨k, hk⟩ := hko p hp; obtain ⟨x, _, hx, _⟩ := Maps.keyOf_i64 Tryz.underlying3 hk; exact ⟨x, hx⟩) (usI_nodup N m) (mem_mu v)
theorem Mu.mk' {w : World} {b n N : Nat} {D : DataW Value} {m : Nat → Option Nat} (ho : w.ownsMap Tryz.prog 3 Rv b n D) (v : Vu D N m) : Mu w b N m := by
  have h1 := keys_size ho
  have h2 := (keys_mu ho v).length_eq
  have h3 := us_len N m
  have h4 : Maps.size D ≤ N := by omega
  obtain ⟨es, clock, hb, F, hs, hD⟩ := ho
  refine ⟨D, ⟨es, clock, hb, F, ?_, hD⟩, v⟩
  have e : Maps.size D = es.size := by rw [hD]; simp [Maps.size, length_sorted]
  omega
theorem Vu.put {D : DataW Value} {N : Nat} {m : Nat → Option Nat} (v : Vu D N m) (hD : Maps.IsMap D) (j : Nat) (hj : j < N) (h : Nat) (hh : h ≤ 6) : Vu (D.put (.int .i64 j) (.held (uv h))) N (pt m j (some h)) := by
  have hk : WideAt.IsKeyLit (.int .i64 (j : Int)) := by simp [WideAt.IsKeyLit]
  refine ⟨fun k => ?_, fun i u e z => ?_, fun i u e => ?_⟩
  · by_cases hkj : k = j
    · subst hkj
      rw [Maps.has_put_same hD hk]
      simp only [true_iff]
      exact ⟨j, h, rfl, by simp [pt]⟩
    · rw [Maps.has_put_other (by intro e; injection e with _ e2; exact hkj e2), v.has k]
      constructor
      · rintro ⟨i, u, rfl, e⟩
        exact ⟨i, u, rfl, by unfold pt; rw [if_neg (by omega)]; exact e⟩
      · rintro ⟨i, u, rfl, e⟩
        unfold pt at e
        rw [if_neg (by omega)] at e
        exact ⟨i, u, rfl, e⟩
  · unfold pt at e
    by_cases hij : i = j
    · subst hij
      rw [if_pos rfl] at e
      cases e
      exact Maps.atKey_put_same hD hk _ _
    · rw [if_neg hij] at e
      rw [Maps.atKey_put_other (by intro e; injection e with _ e2; omega)]
      exact v.at' i u e z
  · unfold pt at e
    by_cases hij : i = j
    · subst hij
      rw [if_pos rfl] at e
      cases e
      exact ⟨hj, hh⟩
    · rw [if_neg hij] at e
      exact v.lt i u e
theorem Vu.del {D : DataW Value} {N : Nat} {m : Nat → Option Nat} (v : Vu D N m) (j : Nat) : Vu (D.del (.int .i64 j)) N (pt m j none) := by
  refine ⟨fun k => ?_, fun i u e z => ?_, fun i u e => ?_⟩
  · by_cases hkj : k = j
    · subst hkj
      rw [Maps.has_del_same]
      simp only [Bool.false_eq_true, false_iff]
      rintro ⟨i, u, e1, e2⟩
      obtain rfl : j = i := by omega
      simp [pt] at e2
    · rw [Maps.has_del_other (by intro e; injection e with _ e2; exact hkj e2), v.has k]
      constructor
      · rintro ⟨i, u, rfl, e⟩
        exact ⟨i, u, rfl, by unfold pt; rw [if_neg (by omega)]; exact e⟩
      · rintro ⟨i, u, rfl, e⟩
        unfold pt at e
        rw [if_neg (by omega)] at e
        exact ⟨i, u, rfl, e⟩
  · unfold pt at e
    by_cases hij : i = j
    · rw [if_pos hij] at e
      cases e
    · rw [if_neg hij] at e
      rw [Maps.atKey_del_other (by intro e; injection e with _ e2; omega)]
      exact v.at' i u e z
  · unfold pt at e
    by_cases hij : i = j
    · rw [if_pos hij] at e
      cases e
    · rw [if_neg hij] at e
      exact v.lt i u e
theorem Mu.look_some {w : World} {b N : Nat} {m : Nat → Option Nat} (h : Mu w b N m) (hN : N ≤ 4096) {j u : Nat} (e : m j = some u) :
    (Instr.lookup 112 (.map (some b)) (.int .i64 j) true).run Tryz.prog w = .ok (.tuple #[.int .u8 u, .bool true]) w := by
  obtain ⟨D, ho, v⟩ := h
  have hj := (v.lt j u e).1
  obtain ⟨x, ps, hr, hx⟩ := ho.look_ok keyed Tryz.underlying112 (z := .int .u8 0) ((zero_of_info Tryz.zeroU).1 w) (zd := .held (.int .u8 0)) (zp := []) rfl (key_at j (by omega))
  rw [(v.has j).2 ⟨j, u, rfl, e⟩] at hr
  rw [v.at' j u e] at hx
  simp [Rv, uv] at hx
  rw [hr, hx.1]
theorem Mu.look_none {w : World} {b N : Nat} {m : Nat → Option Nat} (h : Mu w b N m) {j : Int} (h0 : -9223372036854775808 ≤ j) (h1 : j ≤ 9223372036854775807) (e : ∀ i : Nat, j = i → m i = none) :
    (Instr.lookup 112 (.map (some b)) (.int .i64 j) true).run Tryz.prog w = .ok (.tuple #[.int .u8 0, .bool false]) w := by
  obtain ⟨D, ho, v⟩ := h
  obtain ⟨x, ps, hr, hx⟩ := ho.look_ok keyed Tryz.underlying112 (z := .int .u8 0) ((zero_of_info Tryz.zeroU).1 w) (zd := .held (.int .u8 0)) (zp := []) rfl (key_all j h0 h1)
  have hf : Maps.has D (.int .i64 j) = false := by
    rw [Bool.eq_false_iff]
    intro ht
    obtain ⟨i, u, e1, e2⟩ := (v.has j).1 ht
    rw [e i e1] at e2
    cases e2
  rw [hf] at hr
  rw [Maps.atKey_of_not_has hf] at hx
  simp [Rv] at hx
  rw [hr, hx.1]
theorem Mu.store {w : World} {b N : Nat} {m : Nat → Option Nat} (h : Mu w b N m) (hN : N ≤ 4096) (j : Nat) (hj : j < N) (u : Nat) (hu : u ≤ 6) :
    ∃ w', (Instr.mapUpdate 112 (.map (some b)) (.int .i64 j) (.int .u8 u)).run Tryz.prog w = .ok () w' ∧ Mu w' b N (pt m j (some u)) ∧ w.grownBy w' (some b) := by
  obtain ⟨D, ho, v⟩ := h
  obtain ⟨w', hr, ho', g⟩ := ho.update keyed Tryz.underlying112 (by unfold maxLen; omega) (key_at j (by omega)) (val := uv u) (d := .held (uv u)) (ps := []) rfl
  exact ⟨w', hr, Mu.mk' ho' (v.put ho.isMap j hj u hu), g⟩
theorem Mu.drop {w : World} {b N : Nat} {m : Nat → Option Nat} (h : Mu w b N m) (j : Nat) (hj : j ≤ 4096) (ty : TypeId) :
    ∃ w', (Builtin.delete_ #[112, 3] ty #[.map (some b), .int .i64 j]).run Tryz.prog w = .ok (.tuple #[]) w' ∧ Mu w' b N (pt m j none) ∧ w.grownBy w' (some b) := by
  obtain ⟨D, ho, v⟩ := h
  obtain ⟨w', hr, ho', g⟩ := ho.drop keyed Tryz.underlying112 (key_at j hj) ty
  exact ⟨w', hr, Mu.mk' ho' (v.del j), g.grown⟩
theorem Mu.of_eq {w w' : World} {b N : Nat} {m : Nat → Option Nat} (h : Mu w b N m) (e : w'.heap[b]? = w.heap[b]?) (hs : w.heap.size ≤ w'.heap.size) : Mu w' b N m := by
  obtain ⟨D, ho, v⟩ := h
  obtain ⟨es, clock, hb, F⟩ := ho
  exact ⟨D, ⟨es, clock, e.trans hb, F⟩, v⟩
end Go.Proofs.YtkbpnkjjmipjfaaGreat.P
namespace Go.Proofs.YtkbpnkjjmipjfaaGreat.P
open B Go.ChangeShapes Go.WideShapes Go.ChangeAt Go.RowKit
set_option linter.unusedVariables false

def cols (P : Par) : List Int := (List.range P.k).map fun i => (P.f i : Int)
theorem cols_len (P : Par) : (cols P).length = P.k := by simp [cols]
theorem cols_get (P : Par) {i : Nat} (h : i < P.k) : (cols P)[i]? = some (P.f i : Int) := by simp [cols, h]
structure Pp (w : World) (m p ga b cap : Nat) (G : Nat → Nat → Prop) (bp : Nat → Nat) (P : Par) (L : Nat → Nat → List Nat) (tk : Nat → Nat → Option Nat) (us : Us) (cn : Nat → Nat) : Prop where
  mk' : m ≤ P.k
  lt : p < w.heap.size
  fz : ∀ i, w.frozen? ⟨p, i, none⟩ = false
  c0 : w.cell? ⟨p, 0, none⟩ = some (.int .i64 P.C)
  c1 : w.cell? ⟨p, 1, none⟩ = some (.slice (some ⟨ga, 0, none⟩) P.k cap)
  cx : ∀ i, i < 16 → ∃ v, w.cell? ⟨p, 2 + i, none⟩ = some (.pointer v)
  cb : ∀ i, i < m → w.cell? ⟨p, 2 + P.f i, none⟩ = some (.pointer (some ⟨bp i, 0, none⟩))
  co : w.cell? ⟨p, 18, none⟩ = some (.int .i64 P.o)
  cq : ∀ u, u < 7 → w.cell? ⟨p, 19 + u, none⟩ = some (.int .i64 (P.q u))
  cm : w.cell? ⟨p, 26, none⟩ = some (.map (some b))
  cc : ∀ u, u < 7 → w.cell? ⟨p, 27 + u, none⟩ = some (.int .i64 (cn u))
  own : Own w (.slice (some ⟨ga, 0, none⟩) P.k cap) (cols P)
  mp : Mu w b 4096 us
  bu : ∀ i, i < m → Bu w (G i) (bp i) (L i) (tk i)
  n1 : p ≠ ga
  n2 : p ≠ b
  n3 : ga ≠ b
  g1 : ∀ i, i < m → ¬ G i p ∧ ¬ G i ga ∧ ¬ G i b
  g2 : ∀ i j x, i < m → j < m → i ≠ j → G i x → ¬ G j x
def foot (m p ga b : Nat) (G : Nat → Nat → Prop) : Nat → Prop := fun x => x = p ∨ x = ga ∨ x = b ∨ ∃ i, i < m ∧ G i x
theorem Pp.ga_lt {w : World} {m p ga b cap : Nat} {G : Nat → Nat → Prop} {bp : Nat → Nat} {P : Par} {L : Nat → Nat → List Nat} {tk : Nat → Nat → Option Nat} {us : Us} {cn : Nat → Nat} (h : Pp w m p ga b cap G bp P L tk us cn) : ga < w.heap.size := h.own.lt ga rfl
theorem Pp.flt {w : World} {m p ga b cap : Nat} {G : Nat → Nat → Prop} {bp : Nat → Nat} {P : Par} {L : Nat → Nat → List Nat} {tk : Nat → Nat → Option Nat} {us : Us} {cn : Nat → Nat} (h : Pp w m p ga b cap G bp P L tk us cn) : ∀ x, foot m p ga b G x → x < w.heap.size := by
  rintro x (rfl | rfl | rfl | ⟨i, hi, hx⟩)
  · exact h.lt
  · exact h.ga_lt
  · exact h.mp.lt
  · exact (h.bu i hi).lt x hx
theorem Pp.of_eq {w w' : World} {m p ga b cap : Nat} {G : Nat → Nat → Prop} {bp : Nat → Nat} {P : Par} {L : Nat → Nat → List Nat} {tk : Nat → Nat → Option Nat} {us : Us} {cn : Nat → Nat} (h : Pp w m p ga b cap G bp P L tk us cn) (hs : w.heap.size ≤ w'.heap.size) (e : ∀ x, foot m p ga b G x → w'.heap[x]? = w.heap[x]?) : Pp w' m p ga b cap G bp P L tk us cn := by
  have ep := e p (Or.inl rfl)
  have c := fun i => World.cell?_of_block (w := w) (w' := w') (a := ⟨p, i, none⟩) ep
  exact { h with
    lt := Nat.lt_of_lt_of_le h.lt hs
    fz := fun i => (World.frozen?_of_block (w := w) (a := ⟨p, i, none⟩) ep).trans (h.fz i)
    c0 := (c 0).trans h.c0
    c1 := (c 1).trans h.c1
    cx := fun i hi => by obtain ⟨v, hv⟩ := h.cx i hi; exact ⟨v, (c _).trans hv⟩
    cb := fun i hi => (c _).trans (h.cb i hi)
    co := (c _).trans h.co
    cq := fun u hu => (c _).trans (h.cq u hu)
    cm := (c _).trans h.cm
    cc := fun u hu => (c _).trans (h.cc u hu)
    own := h.own.of_eq (fun g hg => by cases hg; exact e ga (Or.inr (Or.inl rfl)))
    mp := h.mp.of_eq (e b (Or.inr (Or.inr (Or.inl rfl)))) hs
    bu := fun i hi => (h.bu i hi).of_eq hs (fun k hk => e k (Or.inr (Or.inr (Or.inr ⟨i, hi, hk⟩)))) }
theorem Pp.below {w w' : World} {m p ga b cap : Nat} {G : Nat → Nat → Prop} {bp : Nat → Nat} {P : Par} {L : Nat → Nat → List Nat} {tk : Nat → Nat → Option Nat} {us : Us} {cn : Nat → Nat} (h : Pp w m p ga b cap G bp P L tk us cn) (k : Below w.heap.size w w') : Pp w' m p ga b cap G bp P L tk us cn :=
  h.of_eq k.size (fun x hx => k.block x (h.flt x hx))
theorem Pp.count {w : World} {m p ga b cap : Nat} {G : Nat → Nat → Prop} {bp : Nat → Nat} {P : Par} {L : Nat → Nat → List Nat} {tk : Nat → Nat → Option Nat} {us : Us} {cn : Nat → Nat} (h : Pp w m p ga b cap G bp P L tk us cn) (u : Nat) (hu : u < 7) (v : Nat) (hf : ∀ i, i < m → P.f i < 16) :
    Pp (w.setCell ⟨p, 27 + u, none⟩ (.int .i64 v)) m p ga b cap G bp P L tk us (put cn u v) := by
  have g := grown_setCell' w p (27 + u) (.int .i64 v)
  have hs : (w.setCell ⟨p, 27 + u, none⟩ (.int .i64 v)).heap.size = w.heap.size := by simp [World.setCell]
  have c : ∀ i, i ≠ 27 + u → (w.setCell ⟨p, 27 + u, none⟩ (.int .i64 v)).cell? ⟨p, i, none⟩ = w.cell? ⟨p, i, none⟩ := fun i hi => World.cell?_setCell_other _ _ _ _ (by intro h; cases h; exact hi rfl)
  have bk : ∀ x, x < w.heap.size → x ≠ p → (w.setCell ⟨p, 27 + u, none⟩ (.int .i64 v)).heap[x]? = w.heap[x]? := fun x hx hne => g.block x hx (some_ne hne)
  exact { h with
    lt := by rw [hs]; exact h.lt
    fz := fun i => by rw [World.frozen?_setCell]; exact h.fz i
    c0 := (c 0 (by omega)).trans h.c0
    c1 := (c 1 (by omega)).trans h.c1
    cx := fun i hi => by obtain ⟨v, hv⟩ := h.cx i hi; exact ⟨v, (c _ (by omega)).trans hv⟩
    cb := fun i hi => (c _ (by have := hf i hi; omega)).trans (h.cb i hi)
    co := (c _ (by omega)).trans h.co
    cq := fun x hx => (c _ (by omega)).trans (h.cq x hx)
    cm := (c _ (by omega)).trans h.cm
    cc := fun x hx => by
      by_cases e : x = u
      · subst e
        rw [put_same, World.cell?_setCell_same _ _ _ (h.cc x hx)]
      · rw [put_other _ _ _ _ e]
        exact (c _ (by omega)).trans (h.cc x hx)
    own := h.own.of_eq (fun g hg => by cases hg; exact bk ga h.ga_lt h.n1.symm)
    mp := h.mp.of_eq (bk b h.mp.lt h.n2.symm) (by omega)
    bu := fun i hi => (h.bu i hi).of_eq (by omega) (fun k hk => bk k ((h.bu i hi).lt k hk) (fun q => (h.g1 i hi).1 (q ▸ hk))) }
theorem Pp.mapped {w w' : World} {m p ga b cap : Nat} {G : Nat → Nat → Prop} {bp : Nat → Nat} {P : Par} {L : Nat → Nat → List Nat} {tk : Nat → Nat → Option Nat} {us us' : Us} {cn : Nat → Nat} (h : Pp w m p ga b cap G bp P L tk us cn) (g : w.grownBy w' (some b)) (hm : Mu w' b 4096 us') : Pp w' m p ga b cap G bp P L tk us' cn := by
  have bk : ∀ x, x < w.heap.size → x ≠ b → w'.heap[x]? = w.heap[x]? := fun x hx hne => g.block x hx (some_ne hne)
  have ep := bk p h.lt h.n2
  have c := fun i => World.cell?_of_block (w := w) (w' := w') (a := ⟨p, i, none⟩) ep
  exact { h with
    lt := Nat.lt_of_lt_of_le h.lt g.size
    fz := fun i => (World.frozen?_of_block (w := w) (a := ⟨p, i, none⟩) ep).trans (h.fz i)
    c0 := (c 0).trans h.c0
    c1 := (c 1).trans h.c1
    cx := fun i hi => by obtain ⟨v, hv⟩ := h.cx i hi; exact ⟨v, (c _).trans hv⟩
    cb := fun i hi => (c _).trans (h.cb i hi)
    co := (c _).trans h.co
    cq := fun u hu => (c _).trans (h.cq u hu)
    cm := (c _).trans h.cm
    cc := fun u hu => (c _).trans (h.cc u hu)
    own := h.own.of_eq (fun g hg => by cases hg; exact bk ga h.ga_lt h.n3)
    mp := hm
    bu := fun i hi => (h.bu i hi).of_eq g.size (fun k hk => bk k ((h.bu i hi).lt k hk) (fun q => (h.g1 i hi).2.2 (q ▸ hk))) }
theorem Pp.buddy {w w' : World} {m p ga b cap : Nat} {G : Nat → Nat → Prop} {bp : Nat → Nat} {P : Par} {L : Nat → Nat → List Nat} {tk : Nat → Nat → Option Nat} {us : Us} {cn : Nat → Nat} (h : Pp w m p ga b cap G bp P L tk us cn) (j : Nat) (hj : j < m) {G' : Nat → Prop} {L' : Nat → List Nat} {tk' : Nat → Option Nat}
    (k : Kp (G j) G' w w') (hB : Bu w' G' (bp j) L' tk') : Pp w' m p ga b cap (put G j G') bp P (put L j L') (put tk j tk') us cn := by
  have bk : ∀ x, x < w.heap.size → ¬ G j x → w'.heap[x]? = w.heap[x]? := fun x hx hne => k.block x hx hne
  have ep := bk p h.lt (h.g1 j hj).1
  have c := fun i => World.cell?_of_block (w := w) (w' := w') (a := ⟨p, i, none⟩) ep
  have nw : ∀ x, x < w.heap.size → ¬ G j x → ¬ G' x := fun x hx hn q => by
    rcases k.new x q with z | z
    · exact hn z
    · omega
  exact { h with
    lt := Nat.lt_of_lt_of_le h.lt k.size
    fz := fun i => (World.frozen?_of_block (w := w) (a := ⟨p, i, none⟩) ep).trans (h.fz i)
    c0 := (c 0).trans h.c0
    c1 := (c 1).trans h.c1
    cx := fun i hi => by obtain ⟨v, hv⟩ := h.cx i hi; exact ⟨v, (c _).trans hv⟩
    cb := fun i hi => (c _).trans (h.cb i hi)
    co := (c _).trans h.co
    cq := fun u hu => (c _).trans (h.cq u hu)
    cm := (c _).trans h.cm
    cc := fun u hu => (c _).trans (h.cc u hu)
    own := h.own.of_eq (fun g hg => by cases hg; exact bk ga h.ga_lt (h.g1 j hj).2.1)
    mp := h.mp.of_eq (bk b h.mp.lt (h.g1 j hj).2.2) k.size
    bu := fun i hi => by
      by_cases e : i = j
      · subst e
        rw [put_same, put_same, put_same]
        exact hB
      · rw [put_other _ _ _ _ e, put_other _ _ _ _ e, put_other _ _ _ _ e]
        exact (h.bu i hi).of_eq k.size (fun x hx => bk x ((h.bu i hi).lt x hx) (h.g2 i j x hi hj e hx))
    g1 := fun i hi => by
      by_cases e : i = j
      · subst e
        rw [put_same]
        exact ⟨nw p h.lt (h.g1 i hi).1, nw ga h.ga_lt (h.g1 i hi).2.1, nw b h.mp.lt (h.g1 i hi).2.2⟩
      · rw [put_other _ _ _ _ e]
        exact h.g1 i hi
    g2 := fun i i' x hi hi' hne q => by
      by_cases e : i = j
      · subst e
        rw [put_same] at q
        rw [put_other _ _ _ _ hne.symm]
        intro z
        exact nw x ((h.bu i' hi').lt x z) (fun y => h.g2 i i' x hi hi' hne y z) q
      · rw [put_other _ _ _ _ e] at q
        by_cases e' : i' = j
        · subst e'
          rw [put_same]
          exact nw x ((h.bu i hi).lt x q) (h.g2 i i' x hi hi' e q)
        · rw [put_other _ _ _ _ e']
          exact h.g2 i i' x hi hi' hne q }
theorem Pp.stored {w w1 : World} {m p ga b cap : Nat} {G : Nat → Nat → Prop} {bp : Nat → Nat} {P : Par} {L : Nat → Nat → List Nat} {tk : Nat → Nat → Option Nat} {us : Us} {cn : Nat → Nat} (h : Pp w m p ga b cap G bp P L tk us cn) (hm : m < P.k) (hf : ∀ i, i < P.k → P.f i < 16) (hinj : ∀ i, i < m → P.f i ≠ P.f m) {G' : Nat → Prop} {q : Nat} {L' : Nat → List Nat} {tk' : Nat → Option Nat}
    (k : Kp (fun _ => False) G' w w1) (hB : Bu w1 G' q L' tk') : Pp (w1.setCell ⟨p, 2 + P.f m, none⟩ (.pointer (some ⟨q, 0, none⟩))) (m + 1) p ga b cap (put G m G') (put bp m q) P (put L m L') (put tk m tk') us cn := by
  have h1 := h.of_eq (w' := w1) k.size (fun x hx => k.block x (h.flt x hx) (fun z => z))
  have hfm := hf m hm
  have nw : ∀ x, x < w.heap.size → ¬ G' x := fun x hx z => by
    rcases k.new x z with y | y
    · exact y
    · omega
  have g := grown_setCell' w1 p (2 + P.f m) (.pointer (some ⟨q, 0, none⟩))
  have hs : (w1.setCell ⟨p, 2 + P.f m, none⟩ (.pointer (some ⟨q, 0, none⟩))).heap.size = w1.heap.size := by simp [World.setCell]
  have c : ∀ i, i ≠ 2 + P.f m → (w1.setCell ⟨p, 2 + P.f m, none⟩ (.pointer (some ⟨q, 0, none⟩))).cell? ⟨p, i, none⟩ = w1.cell? ⟨p, i, none⟩ := fun i hi => World.cell?_setCell_other _ _ _ _ (by intro h; cases h; exact hi rfl)
  have bk : ∀ x, x < w1.heap.size → x ≠ p → (w1.setCell ⟨p, 2 + P.f m, none⟩ (.pointer (some ⟨q, 0, none⟩))).heap[x]? = w1.heap[x]? := fun x hx hne => g.block x hx (some_ne hne)
  obtain ⟨v0, hv0⟩ := h1.cx (P.f m) hfm
  have hsame : (w1.setCell ⟨p, 2 + P.f m, none⟩ (.pointer (some ⟨q, 0, none⟩))).cell? ⟨p, 2 + P.f m, none⟩ = some (.pointer (some ⟨q, 0, none⟩)) := World.cell?_setCell_same _ _ _ hv0
  exact { h1 with
    mk' := hm
    lt := by rw [hs]; exact h1.lt
    fz := fun i => by rw [World.frozen?_setCell]; exact h1.fz i
    c0 := (c 0 (by omega)).trans h1.c0
    c1 := (c 1 (by omega)).trans h1.c1
    cx := fun i hi => by
      by_cases e : i = P.f m
      · subst e
        exact ⟨_, hsame⟩
      · obtain ⟨v, hv⟩ := h1.cx i hi
        exact ⟨v, (c _ (by omega)).trans hv⟩
    cb := fun i hi => by
      by_cases e : i = m
      · subst e
        rw [put_same]
        exact hsame
      · rw [put_other _ _ _ _ e]
        have := hinj i (by omega)
        exact (c _ (by omega)).trans (h1.cb i (by omega))
    co := (c _ (by omega)).trans h1.co
    cq := fun x hx => (c _ (by omega)).trans (h1.cq x hx)
    cm := (c _ (by omega)).trans h1.cm
    cc := fun x hx => (c _ (by omega)).trans (h1.cc x hx)
    own := h1.own.of_eq (fun g hg => by cases hg; exact bk ga h1.ga_lt h1.n1.symm)
    mp := h1.mp.of_eq (bk b h1.mp.lt h1.n2.symm) (by omega)
    bu := fun i hi => by
      by_cases e : i = m
      · subst e
        rw [put_same, put_same, put_same, put_same]
        exact hB.of_eq (by omega) (fun x hx => bk x (hB.lt x hx) (fun z => nw p h.lt (z ▸ hx)))
      · rw [put_other _ _ _ _ e, put_other _ _ _ _ e, put_other _ _ _ _ e, put_other _ _ _ _ e]
        have hi' : i < m := by omega
        exact (h1.bu i hi').of_eq (by omega) (fun x hx => bk x ((h1.bu i hi').lt x hx) (fun z => (h1.g1 i hi').1 (z ▸ hx)))
    g1 := fun i hi => by
      by_cases e : i = m
      · subst e
        rw [put_same]
        exact ⟨nw p h.lt, nw ga h.ga_lt, nw b h.mp.lt⟩
      · rw [put_other _ _ _ _ e]
        exact h1.g1 i (by omega)
    g2 := fun i i' x hi hi' hne z => by
      by_cases e : i = m
      · subst e
        rw [put_same] at z
        rw [put_other _ _ _ _ hne.symm]
        intro y
        exact nw x ((h.bu i' (by omega)).lt x y) z
      · rw [put_other _ _ _ _ e] at z
        by_cases e' : i' = m
        · subst e'
          rw [put_same]
          exact nw x ((h.bu i (by omega)).lt x z)
        · rw [put_other _ _ _ _ e']
          exact h1.g2 i i' x (by omega) (by omega) hne z }
end Go.Proofs.YtkbpnkjjmipjfaaGreat.P
