/- addr.Tables over whatever row of spans: what it answers, in one form; and the plain mathematics of one span more: order and cuts do not count. -/
import Derived.Test.YthmcempfiimkkabCnt
import Derived.Test.YthmcempfiimkkabBad
import Derived.Test.YthmcempfiimkkabWorks
namespace Go.Proofs.Ythmcempfiimkkab
open Go.ChangeShapes Go.WideShapes Go.ChangeAt Go.RowKit
set_option linter.unusedVariables false

def tres (xs : List (Int × Int)) : Int × Int := if 1024 < xs.length then (0, 3) else if xs.all mayS = true then ((total xs : Int), 0) else (0, 2)
theorem tres_ok {xs : List (Int × Int)} (h : (tres xs).2 = 0) : xs.length ≤ 1024 ∧ (∀ s ∈ xs, mayS s = true) ∧ tres xs = ((total xs : Int), 0) := by
  unfold tres at *
  by_cases h1 : 1024 < xs.length
  · simp [h1] at h
  · by_cases h2 : xs.all mayS = true
    · simp only [if_neg h1, if_pos h2]
      exact ⟨by omega, fun s hs => List.all_eq_true.1 h2 s hs, trivial⟩
    · simp [h1, h2] at h
theorem tres_val {xs : List (Int × Int)} (h1 : xs.length ≤ 1024) (h2 : ∀ s ∈ xs, mayS s = true) : tres xs = ((total xs : Int), 0) := by
  unfold tres
  rw [if_neg (by omega), if_pos (List.all_eq_true.2 h2)]

theorem Tables_any (b off cap : Nat) (xs : List (Int × Int)) (hx : ∀ s ∈ xs, fits s) (hm : xs.length ≤ maxLen) (ao : Option Addr) (w : World) (hr : xs = [] ∨ ao = some ⟨b, off, none⟩ ∧ Row w b off xs) :
    Calls Try.prog 6 #[.slice ao xs.length cap] w fun e w' => e = .returned (.tuple #[.int .i64 (tres xs).1, .int .i64 (tres xs).2]) ∧ Below w.heap.size w w' := by
  by_cases h1 : 1024 < xs.length
  · have e : tres xs = (0, 3) := by unfold tres; rw [if_pos h1]
    rw [e]
    refine (Tables_many ao cap xs.length h1 hm w).mono ?_
    rintro e w' ⟨rfl, rfl⟩
    exact ⟨rfl, Below.refl _ _⟩
  · by_cases h2 : xs.all mayS = true
    · rw [tres_val (by omega) (List.all_eq_true.1 h2)]
      exact Tables_val srt b off cap xs hx (by omega) ao w hr (List.all_eq_true.1 h2)
    · have e : tres xs = (0, 2) := by unfold tres; rw [if_neg h1, if_neg h2]
      rw [e]
      refine Tables_bad b off cap xs hx (by omega) ao w hr ?_
      simp at h2
      obtain ⟨a, c, hs, hf⟩ := h2
      exact ⟨(a, c), hs, hf⟩

/-- The spans in turn, one ahead. -/
theorem cov_turned (q : Int) (xs : List (Int × Int)) (s : Int × Int) (k : Nat) : cov q (s :: xs.reverse) k = (cov q xs k || ned q s k) := by
  rw [Bool.eq_iff_iff, cov_iff, Bool.or_eq_true, cov_iff]
  simp only [List.mem_cons, List.mem_reverse]
  constructor
  · rintro ⟨t, rfl | h, hn⟩
    · exact Or.inr hn
    · exact Or.inl ⟨t, h, hn⟩
  · rintro (⟨t, h, hn⟩ | hn)
    · exact ⟨t, Or.inr h, hn⟩
    · exact ⟨s, Or.inl rfl, hn⟩
theorem ned_cut (q : Int) (hq : q = 32 ∨ q = 1024 ∨ q = 32768) (p m c : Int) (h0 : 0 ≤ c) (h1 : c ≤ m) (k : Nat) : (ned q (p + c, m - c) k || ned q (p, c) k) = ned q (p, m) k := by
  rw [Bool.eq_iff_iff, Bool.or_eq_true, ned_iff, ned_iff, ned_iff]
  simp only
  rcases hq with rfl | rfl | rfl <;> omega
theorem cov_cut (q : Int) (hq : q = 32 ∨ q = 1024 ∨ q = 32768) (xs : List (Int × Int)) (p m c : Int) (h0 : 0 ≤ c) (h1 : c ≤ m) (k : Nat) : cov q ((p + c, m - c) :: xs.reverse ++ [(p, c)]) k = cov q ((p, m) :: xs.reverse) k := by
  rw [cov_snoc, cov_turned, cov_turned, Bool.or_assoc, ned_cut q hq p m c h0 h1]
theorem total_cut (xs : List (Int × Int)) (p m c : Int) (h0 : 0 ≤ c) (h1 : c ≤ m) : total ((p + c, m - c) :: xs.reverse ++ [(p, c)]) = total ((p, m) :: xs.reverse) := by
  unfold total
  rw [cn_congr 32768 (fun k _ => cov_cut 32 (by omega) xs p m c h0 h1 k), cn_congr 1024 (fun k _ => cov_cut 1024 (by omega) xs p m c h0 h1 k), cn_congr 32 (fun k _ => cov_cut 32768 (by omega) xs p m c h0 h1 k)]
theorem cn_turned (q : Int) (xs : List (Int × Int)) (s : Int × Int) (M : Nat) : cn (cov q xs) M ≤ cn (cov q (s :: xs.reverse)) M ∧ cn (cov q (s :: xs.reverse)) M ≤ cn (cov q xs) M + cn (cov q [s]) M := by
  rw [cn_congr (q := fun k => cov q xs k || ned q s k) M (fun k _ => cov_turned q xs s k), cn_or]
  have h : cn (fun k => !cov q xs k && ned q s k) M ≤ cn (cov q [s]) M := cn_mono (fun k hk => by simp at hk; simp [cov, hk.2]) M
  omega
theorem total_turned (xs : List (Int × Int)) (s : Int × Int) : total xs ≤ total (s :: xs.reverse) ∧ total (s :: xs.reverse) + 1 ≤ total xs + total [s] := by
  have h1 := cn_turned 32 xs s 32768
  have h2 := cn_turned 1024 xs s 1024
  have h3 := cn_turned 32768 xs s 32
  unfold total
  omega
end Go.Proofs.Ythmcempfiimkkab
