/- Which lines a last-level cache holds: each in the set of its frame's colour, each once; no condition but those named. -/
import Derived.Test.YtokaohlgncmoaaaVGc
import Derived.Test.YtokaohlgncmoaaaVHh
namespace Go.Proofs.Ytokaohlgncmoaaa.E
open Go.ChangeShapes Go.WideShapes Go.ChangeAt Go.RowKit
set_option linter.unusedVariables false
set_option maxRecDepth 8192

def Cl (h : Hw) (s : Sc) : Prop := ∀ i t, t ∈ s.b i → ∃ pa : Nat, pa < h.n * 256 ∧ t = tg pa ∧ i = i2 h pa
theorem tch_mem {ways : Nat} {t x : Int} {l : List Int} (h : x ∈ C.tch ways t l) : x = t ∨ x ∈ l := by
  unfold C.tch at h
  rcases List.mem_cons.1 (List.mem_of_mem_take h) with e | e
  · exact Or.inl e
  · exact Or.inr (List.mem_filter.1 e).1
theorem tch_front {ways : Nat} {t : Int} {l : List Int} (h : 1 ≤ ways) : t ∈ C.tch ways t l := by
  unfold C.tch
  obtain ⟨m, rfl⟩ : ∃ m, ways = m + 1 := ⟨ways - 1, by omega⟩
  simp
theorem cl_new (h : Hw) : Cl h s0 := fun i t ht => by simp [s0] at ht
theorem Cl.tou {h : Hw} {s : Sc} (hc : Cl h s) (pa : Nat) (hp : pa < h.n * 256) : Cl h (tou h s pa) := by
  intro i t ht
  unfold E.tou at ht
  simp only at ht
  cases hb : hA h s pa
  · rw [hb] at ht
    simp only [cond_false] at ht
    unfold C.put at ht
    split at ht
    · rename_i e
      rcases tch_mem ht with q | q
      · exact ⟨pa, hp, q, e⟩
      · rw [← e] at q
        exact hc i t q
    · exact hc i t ht
  · rw [hb] at ht
    exact hc i t ht
theorem Cl.z {h : Hw} {s : Sc} (hc : Cl h s) (z : Int) : Cl h { s with z := z } := hc
theorem again {h : Hw} (o : h.Ok) (s : Sc) (pa pb : Nat) (e : pb / 16 = pa / 16) (z : Int) : hA h { tou h s pa with z := z } pb = true := by
  unfold hA tou i1 tg
  rw [e]
  simp only [C.put_same, decide_eq_true_eq]
  exact tch_front o.v1
theorem hB_of {h : Hw} {s : Sc} {pa : Nat} (e : hA h s pa = true) : hB h s pa = false := by unfold hB; rw [e]; rfl
theorem lns_mem {f : Nat → List Int} : ∀ {n : Nat} {x : Nat × Int}, x ∈ C.lns f n → x.1 < n ∧ x.2 ∈ f x.1
  | 0, x, h => by simp [C.lns] at h
  | n + 1, x, h => by
    simp only [C.lns, List.mem_append, List.mem_map] at h
    rcases h with h | ⟨t, ht, rfl⟩
    · have := lns_mem h
      exact ⟨by omega, this.2⟩
    · exact ⟨by simp, ht⟩
theorem lns_nodup {f : Nat → List Int} : ∀ {n : Nat}, (∀ i, i < n → (f i).Nodup) → (C.lns f n).Nodup
  | 0, _ => by simp [C.lns]
  | n + 1, h => by
    simp only [C.lns]
    rw [List.nodup_append]
    refine ⟨lns_nodup (fun i hi => h i (by omega)), ?_, ?_⟩
    · exact List.Pairwise.map (fun t : Int => (n, t)) (fun a b hab q => hab (by injection q)) (h n (by omega))
    · intro a ha b hb e
      subst e
      have := (lns_mem ha).1
      simp only [List.mem_map] at hb
      obtain ⟨t, _, rfl⟩ := hb
      simp at this
theorem cnt_ways {f : Nat → List Int} {k : Nat} : ∀ {n : Nat}, (∀ i, i < n → (f i).length ≤ k) → C.cnt f n ≤ n * k
  | 0, _ => by simp [C.cnt]
  | n + 1, h => by
    have h1 := cnt_ways (n := n) (fun i hi => h i (by omega))
    have h2 := h n (by omega)
    simp only [C.cnt]
    rw [Nat.add_mul]
    omega
structure Li (h : Hw) (L : List (Nat × Int)) : Prop where
  len : L.length ≤ h.c * 16 * h.k
  nod : L.Nodup
  at' : ∀ x ∈ L, ∃ q : Nat, x.2 = (q : Int) ∧ q < h.n * 16 ∧ x.1 = q / 16 % h.c * 16 + q % 16
theorem Cr.li {q : Kd} {w : World} {X : Nat → Prop} {p : Nat} {h : Hw} {s : Sc} (K : Cr q w X p h s) (hc : Cl h s) : Li h (C.lns s.b (h.c * 16)) := by
  obtain ⟨G, P, c, rfl, rfl⟩ := K
  obtain ⟨b, V, hP⟩ := c.ll.parts
  refine ⟨by rw [C.lns_len]; exact cnt_ways (fun i hi => hP.c.len i hi), lns_nodup (fun i hi => hP.c.nod i hi), fun x hx => ?_⟩
  obtain ⟨h1, h2⟩ := lns_mem hx
  obtain ⟨pa, hp, e1, e2⟩ := hc _ _ h2
  refine ⟨pa / 16, e1, by omega, ?_⟩
  rw [e2]
  unfold i2
  have a1 : pa / 16 / 16 = pa / 256 := by omega
  have a2 : pa / 16 % 16 = pa % 256 / 16 := by omega
  rw [a1, a2]
theorem xor7 (a : Nat) (h : a < 18446744073709551616) : ∃ b : Nat, bits .xor .u64 (a : Int) 7 = (b : Int) ∧ b / 16 = a / 16 ∧ b < 18446744073709551616 := by
  have hx : a ^^^ 7 < 2 ^ 64 := Nat.xor_lt_two_pow (by omega) (by omega)
  refine ⟨a ^^^ 7, u64_xor_nat a 7 h (by omega), ?_, by omega⟩
  have := @Nat.xor_div_two_pow a 7 4
  simpa using this
end Go.Proofs.Ytokaohlgncmoaaa.E
