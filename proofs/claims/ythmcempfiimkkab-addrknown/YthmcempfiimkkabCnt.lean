/- How many tables spans need, as a count over the tables' numbers: what addr.Tables' fold over rising spans gives is that count; each span ends within the limit. -/
import Derived.Test.YthmcempfiimkkabTall
namespace Go.Proofs.Ythmcempfiimkkab
open Go.RowKit
set_option linter.unusedVariables false

def cn (p : Nat → Bool) : Nat → Nat
  | 0 => 0
  | M + 1 => cn p M + (if p M = true then 1 else 0)
theorem cn_congr {p q : Nat → Bool} : ∀ M, (∀ k, k < M → p k = q k) → cn p M = cn q M
  | 0, _ => rfl
  | M + 1, h => by simp only [cn]; rw [cn_congr M (fun k hk => h k (by omega)), h M (by omega)]
theorem cn_or (p q : Nat → Bool) : ∀ M, cn (fun k => p k || q k) M = cn p M + cn (fun k => !p k && q k) M
  | 0 => rfl
  | M + 1 => by
    have ih := cn_or p q M
    simp only [cn]
    rw [ih]
    by_cases hp : p M = true <;> by_cases hq : q M = true <;> simp [hp, hq] <;> omega
theorem cn_iv (a b : Nat) (h : a ≤ b) : ∀ M, cn (fun k => decide (a ≤ k) && decide (k < b)) M = min b M - min a M
  | 0 => by simp [cn]
  | M + 1 => by
    have ih := cn_iv a b h M
    simp only [cn]
    rw [ih]
    by_cases c1 : a ≤ M <;> by_cases c2 : M < b <;> simp [c1, c2] <;> omega
theorem cn_mono {p q : Nat → Bool} (h : ∀ k, p k = true → q k = true) : ∀ M, cn p M ≤ cn q M
  | 0 => Nat.le_refl _
  | M + 1 => by
    have ih := cn_mono h M
    simp only [cn]
    have := h M
    cases hp : p M <;> cases hq : q M <;> simp_all <;> omega
theorem cn_le (p : Nat → Bool) : ∀ M, cn p M ≤ M
  | 0 => Nat.le_refl _
  | M + 1 => by have ih := cn_le p M; simp only [cn]; split <;> omega

/-- Does a span need the table of number k? -/
def ned (q : Int) (s : Int × Int) (k : Nat) : Bool := decide (0 < s.2) && decide (s.1 / q ≤ (k : Int)) && decide ((k : Int) ≤ (s.1 + s.2 - 1) / q)
def cov (q : Int) (xs : List (Int × Int)) (k : Nat) : Bool := xs.any fun s => ned q s k
theorem cov_iff (q : Int) (xs : List (Int × Int)) (k : Nat) : cov q xs k = true ↔ ∃ s ∈ xs, ned q s k = true := by simp [cov]
theorem ned_iff (q : Int) (s : Int × Int) (k : Nat) : ned q s k = true ↔ 0 < s.2 ∧ s.1 / q ≤ (k : Int) ∧ (k : Int) ≤ (s.1 + s.2 - 1) / q := by
  simp [ned, and_assoc]
theorem cov_eq {q : Int} {xs ys : List (Int × Int)} (h : ∀ s, 0 < s.2 → (s ∈ xs ↔ s ∈ ys)) (k : Nat) : cov q xs k = cov q ys k := by
  rw [Bool.eq_iff_iff, cov_iff, cov_iff]
  constructor
  · rintro ⟨s, hs, hn⟩; exact ⟨s, (h s ((ned_iff q s k).1 hn).1).1 hs, hn⟩
  · rintro ⟨s, hs, hn⟩; exact ⟨s, (h s ((ned_iff q s k).1 hn).1).2 hs, hn⟩
theorem cov_snoc (q : Int) (xs : List (Int × Int)) (s : Int × Int) (k : Nat) : cov q (xs ++ [s]) k = (cov q xs k || ned q s k) := by simp [cov]
theorem cov_cons (q : Int) (xs : List (Int × Int)) (s : Int × Int) (k : Nat) : cov q (s :: xs) k = (ned q s k || cov q xs k) := by simp [cov]

/-- The fold behind the first j spans: the count; nothing from 'fresh' on is needed; 'fresh' is some span's end. -/
def Inv (q : Int) (M : Nat) (ys : List (Int × Int)) (st : Int × Int) : Prop :=
  st.1 = cn (cov q ys) M ∧ (∀ k : Nat, cov q ys k = true → (k : Int) < st.2) ∧ (st.2 = 0 ∨ ∃ s ∈ ys, 0 < s.2 ∧ st.2 = (s.1 + s.2 - 1) / q + 1)

theorem inv_step (q : Int) (hq : 1 ≤ q) (M : Nat) (hM : 1048576 ≤ q * M) (ys : List (Int × Int)) (st s : Int × Int) (hs : okS s) (hok : ∀ y ∈ ys, okS y) (hle : ∀ y ∈ ys, y.1 ≤ s.1) (h : Inv q M ys st) : Inv q M (ys ++ [s]) (tbStep q st s) := by
  obtain ⟨i1, i2, i3⟩ := h
  obtain ⟨s0, s1, s2⟩ := hs
  have hf0 : 0 ≤ s.1 / q := Int.ediv_nonneg s0 (by omega)
  have hfe : s.1 / q ≤ (s.1 + s.2 - 1) / q := Int.ediv_le_ediv (by omega) (by omega)
  have heM : (s.1 + s.2 - 1) / q < M := by
    apply Int.ediv_lt_of_lt_mul (by omega)
    have : (M : Int) * q = q * M := Int.mul_comm _ _
    omega
  have hst0 : 0 ≤ st.2 := by
    rcases i3 with h | ⟨y, hy, hp, h⟩
    · omega
    · obtain ⟨y0, y1, y2⟩ := hok y hy
      have := (div_bd (y.1 + y.2 - 1) q (by omega) hq).1
      omega
  generalize hF : s.1 / q = f at *
  generalize hE : (s.1 + s.2 - 1) / q = e at *
  -- inside the span's own numbers, what was needed before lies just below 'fresh'
  have key : ∀ k : Nat, f ≤ (k : Int) → (k : Int) ≤ e → (cov q ys k = true ↔ (k : Int) < st.2) := by
    intro k h1 h2
    refine ⟨i2 k, fun h3 => ?_⟩
    rcases i3 with h | ⟨y, hy, hp, h⟩
    · omega
    · refine (cov_iff q ys k).2 ⟨y, hy, (ned_iff q y k).2 ⟨hp, ?_, by omega⟩⟩
      have : y.1 / q ≤ s.1 / q := Int.ediv_le_ediv (by omega) (hle y hy)
      omega
  have hn : ∀ k : Nat, ned q s k = true ↔ f ≤ (k : Int) ∧ (k : Int) ≤ e := by
    intro k
    rw [ned_iff, hF, hE]
    exact ⟨fun h => h.2, fun h => ⟨by omega, h⟩⟩
  have hcn : cn (cov q (ys ++ [s])) M = cn (cov q ys) M + cn (fun k => !cov q ys k && ned q s k) M := by
    rw [cn_congr (q := fun k => cov q ys k || ned q s k) M (fun k _ => cov_snoc q ys s k), cn_or]
  unfold tbStep
  rw [hF, hE]
  split
  · rename_i hlt
    refine ⟨?_, ?_, Or.inr ⟨s, by simp, by omega, by rw [hE]⟩⟩
    · have hc : cn (fun k => !cov q ys k && ned q s k) M = cn (fun k => decide ((max st.2 f).toNat ≤ k) && decide (k < (e + 1).toNat)) M := by
        refine cn_congr M (fun k _ => ?_)
        rw [Bool.eq_iff_iff]
        simp only [Bool.and_eq_true, Bool.not_eq_true', decide_eq_true_eq, hn]
        constructor
        · rintro ⟨h1, h2, h3⟩
          have := key k h2 h3
          rw [h1] at this
          simp at this
          omega
        · rintro ⟨h1, h2⟩
          have h3 : f ≤ (k : Int) := by omega
          have h4 : (k : Int) ≤ e := by omega
          refine ⟨?_, h3, h4⟩
          have := key k h3 h4
          cases hc : cov q ys k
          · rfl
          · rw [hc] at this; simp at this; omega
      rw [cn_iv _ _ (by omega)] at hc
      show st.1 + (e + 1 - max st.2 f) = _
      rw [hcn, hc, i1]
      omega
    · intro k hk
      show (k : Int) < e + 1
      rw [cov_snoc, Bool.or_eq_true] at hk
      rcases hk with hk | hk
      · have := i2 k hk; omega
      · have := (hn k).1 hk; omega
  · rename_i hge
    have hsame : ∀ k : Nat, cov q (ys ++ [s]) k = cov q ys k := by
      intro k
      rw [cov_snoc]
      cases hd : ned q s k
      · simp
      · have h1 := (hn k).1 hd
        have := (key k h1.1 h1.2).2 (by omega)
        rw [this]; rfl
    refine ⟨?_, fun k hk => i2 k (by rw [← hsame k]; exact hk), ?_⟩
    · rw [i1, cn_congr M (fun k _ => hsame k)]
    · rcases i3 with h | ⟨y, hy, hp, h⟩
      · exact Or.inl h
      · exact Or.inr ⟨y, by simp [hy], hp, h⟩

theorem inv_to (q : Int) (hq : 1 ≤ q) (M : Nat) (hM : 1048576 ≤ q * M) (zs : List (Int × Int)) (hok : ∀ s ∈ zs, okS s) (hso : zs.Pairwise (fun a b => a.1 ≤ b.1)) : ∀ j, j ≤ zs.length → Inv q M (zs.take j) (tbTo q zs j)
  | 0, _ => by
    have h0 : ∀ M, cn (fun _ => false) M = 0 := fun M => by induction M with | zero => rfl | succ M ih => simp [cn, ih]
    refine ⟨?_, ?_, Or.inl rfl⟩
    · simp only [tbTo, List.take_zero]
      rw [cn_congr (q := fun _ => false) M (fun k _ => by simp [cov]), h0]
      rfl
    · intro k hk; simp [cov] at hk
  | j + 1, hj => by
    have ih := inv_to q hq M hM zs hok hso j (by omega)
    have hlt : j < zs.length := by omega
    have hg : zs[j]?.getD (0, 1) = zs[j] := by rw [List.getElem?_eq_getElem hlt]; rfl
    simp only [tbTo, hg]
    rw [List.take_succ_eq_append_getElem hlt]
    refine inv_step q hq M hM _ _ _ (hok _ (List.getElem_mem _)) (fun y hy => hok y (List.mem_of_mem_take hy)) (fun y hy => ?_) ih
    rw [List.pairwise_iff_getElem] at hso
    obtain ⟨i, hi, rfl⟩ := List.getElem_of_mem hy
    rw [List.getElem_take]
    simp at hi
    exact hso i j (by omega) hlt (by omega)

theorem tot_cn (q : Int) (hq : 1 ≤ q) (M : Nat) (hM : 1048576 ≤ q * M) {xs zs : List (Int × Int)} (hv : ∀ s ∈ xs, mayS s = true) (hp : zs.Perm (kept xs)) (hso : zs.Pairwise (fun a b => a.1 ≤ b.1)) : tot q zs = cn (cov q xs) M := by
  have h := (inv_to q hq M hM zs (ok_kept hv hp) hso zs.length (Nat.le_refl _)).1
  rw [List.take_length] at h
  unfold tot
  rw [h, cn_congr M (fun k _ => cov_eq (ys := xs) (fun s hs => ?_) k)]
  rw [hp.mem_iff]
  simp [kept, hs]

/-- How many tables all spans need, the root among them. -/
def total (xs : List (Int × Int)) : Nat := 1 + cn (cov 32 xs) 32768 + cn (cov 1024 xs) 1024 + cn (cov 32768 xs) 32
theorem total_bd (xs : List (Int × Int)) : 1 ≤ total xs ∧ total xs ≤ 33825 := by
  have h1 := cn_le (cov 32 xs) 32768
  have h2 := cn_le (cov 1024 xs) 1024
  have h3 := cn_le (cov 32768 xs) 32
  unfold total; omega

/-- addr.Tables over a row of spans that may all be. -/
theorem Tables_val (Hs : Srt) (b off cap : Nat) (xs : List (Int × Int)) (hx : ∀ s ∈ xs, fits s) (hn : xs.length ≤ 1024) (ao : Option Addr) (w : World) (hr : xs = [] ∨ ao = some ⟨b, off, none⟩ ∧ Row w b off xs) (hv : ∀ s ∈ xs, mayS s = true) :
    Calls Try.prog 6 #[.slice ao xs.length cap] w fun e w' => e = .returned (.tuple #[.int .i64 (total xs : Int), .int .i64 0]) ∧ Below w.heap.size w w' := by
  refine (Tables_all Hs b off cap xs hx hn ao w hr hv).mono ?_
  rintro e w' ⟨zs, hp, hso, rfl, hb⟩
  rw [tot_cn 32 (by omega) 32768 (by omega) hv hp hso, tot_cn 1024 (by omega) 1024 (by omega) hv hp hso, tot_cn 32768 (by omega) 32 (by omega) hv hp hso]
  refine ⟨?_, hb⟩
  have e : (1 + (cn (cov 32 xs) 32768 : Int) + (cn (cov 1024 xs) 1024 : Int) + (cn (cov 32768 xs) 32 : Int)) = (total xs : Int) := by unfold total; omega
  rw [e]
end Go.Proofs.Ythmcempfiimkkab
