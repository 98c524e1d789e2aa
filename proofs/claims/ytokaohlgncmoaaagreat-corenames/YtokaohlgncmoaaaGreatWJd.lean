/- Which lines a last-level cache holds: each in the set of its frame's colour, each once; no condition but those named. -/
import Derived.Test.YtokaohlgncmoaaaGreatWJc
import Derived.Test.YtokaohlgncmoaaaGreatWHd
import Derived.Test.YtokaohlgncmoaaaGreatWKd
namespace Go.Proofs.YtokaohlgncmoaaaGreat.E
open Go.ChangeShapes Go.WideShapes Go.ChangeAt Go.RowKit
set_option linter.unusedVariables false
set_option maxRecDepth 8192

theorem lns_mem {f : Nat → List Int} : ∀ {n : Nat} {x : Nat × Int}, x ∈ C.lns f n → x.1 < n ∧ x.2 ∈ f x.1
  | 0, x, h => by simp [C.lns] at h
  | n + 1, x, h => by
    simp only [C.lns, List.mem_append, List.mem_map] at h
    rcases h with h | ⟨t, ht, rfl⟩
    · have := lns_mem h
      exact ⟨by omega, this.2⟩
    · exact ⟨by simp, ht⟩
theorem lns_nodup {f : Nat → List Int} : ∀ {n : Nat}, (∀ i, i < n → (f i).Nodup) → (C.lns f n).Nodup
  | 0, _ => by simp [C.lns]
  | n + 1, h => by
    simp only [C.lns]
    rw [List.nodup_append]
    refine ⟨lns_nodup (fun i hi => h i (by omega)), ?_, ?_⟩
    · exact List.Pairwise.map (fun t : Int => (n, t)) (fun a b hab q => hab (by injection q)) (h n (by omega))
    · intro a ha b hb e
      subst e
      have := (lns_mem ha).1
      simp only [List.mem_map] at hb
      obtain ⟨t, _, rfl⟩ := hb
      simp at this
theorem cnt_ways {f : Nat → List Int} {k : Nat} : ∀ {n : Nat}, (∀ i, i < n → (f i).length ≤ k) → C.cnt f n ≤ n * k
  | 0, _ => by simp [C.cnt]
  | n + 1, h => by
    have h1 := cnt_ways (n := n) (fun i hi => h i (by omega))
    have h2 := h n (by omega)
    simp only [C.cnt]
    rw [Nat.add_mul]
    omega
structure Li (h : Hw) (L : List (Nat × Int)) : Prop where
  len : L.length ≤ h.c * 16 * h.k
  nod : L.Nodup
  at' : ∀ x ∈ L, ∃ q : Nat, x.2 = (q : Int) ∧ q < h.n * 16 ∧ x.1 = q / 16 % h.c * 16 + q % 16
end Go.Proofs.YtokaohlgncmoaaaGreat.E
namespace Go.Proofs.YtokaohlgncmoaaaGreat.E
open Go.ChangeShapes Go.WideShapes Go.ChangeAt Go.RowKit
set_option linter.unusedVariables false
set_option maxRecDepth 8192

theorem Within_any (k n : Int) (h0 : 0 < n) (h1 : n < 4611686018427387904) (hk0 : -9223372036854775808 ≤ k) (hk1 : k < 9223372036854775808) (w : World) :
    Calls Tryz.prog 39 #[.int .i64 k, .int .i64 n] w fun e w' => e = .returned (.int .i64 (k % n)) ∧ w' = w := by
  have h2 : -n < k.tmod n := Int.lt_tmod_of_pos k h0
  have h3 : k.tmod n < n := Int.tmod_lt_of_pos k h0
  have HE : Hid (k % n = if k.tmod n < 0 then k.tmod n + n else k.tmod n) := by
    unfold Hid
    have e : k % n = (k.tmod n) % n := by
      rw [Int.tmod_eq_emod]
      split
      · simp
      · rw [Int.natAbs_of_nonneg (by omega), Int.sub_emod_right, Int.emod_emod]
    rw [e]
    split
    · rw [← Int.add_emod_right]
      exact Int.emod_eq_of_lt (by omega) (by omega)
    · exact Int.emod_eq_of_lt (by omega) (by omega)
  rw [HE.out]
  clear HE
  by_cases hn : k.tmod n < 0
  · rw [if_pos hn]
    go_enter Tryz.func39, Tryz.ntmps39
    go_wp2
    go_ret
    exact ⟨rfl, rfl⟩
  · rw [if_neg hn]
    go_enter Tryz.func39, Tryz.ntmps39
    go_wp2
    go_ret
    exact ⟨rfl, rfl⟩
end Go.Proofs.YtokaohlgncmoaaaGreat.E
