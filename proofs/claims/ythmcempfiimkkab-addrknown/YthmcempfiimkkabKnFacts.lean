/- What addr.Tables answers at the chapter's examples, each in the memory that the statement lays them in. -/
import Derived.Test.YthmcempfiimkkabFewMath
namespace Go.Proofs.Ythmcempfiimkkab
open Go.ChangeShapes Go.WideShapes Go.ChangeAt Go.RowKit
set_option linter.unusedVariables false

theorem Tables_eval (b off cap : Nat) (xs : List (Int × Int)) (hx : ∀ s ∈ xs, fits s) (hn : xs.length ≤ 1024) (hv : ∀ s ∈ xs, mayS s = true) (r : Int)
    (he : ∀ zs : List (Int × Int), zs.Perm (kept xs) → zs.Pairwise (fun a b => a.1 ≤ b.1) → 1 + tot 32 zs + tot 1024 zs + tot 32768 zs = r) (ao : Option Addr) (w : World) (hr : xs = [] ∨ ao = some ⟨b, off, none⟩ ∧ Row w b off xs) :
    Calls Try.prog 6 #[.slice ao xs.length cap] w fun e w' => e = .returned (.tuple #[.int .i64 r, .int .i64 0]) ∧ Below w.heap.size w w' := by
  refine (Tables_all srt b off cap xs hx hn ao w hr hv).mono ?_
  rintro e w' ⟨zs, hp, hs, rfl, hb⟩
  rw [he zs hp hs]
  exact ⟨rfl, hb⟩
theorem ev_none : ∀ zs : List (Int × Int), zs.Perm (kept []) → zs.Pairwise (fun a b => a.1 ≤ b.1) → 1 + tot 32 zs + tot 1024 zs + tot 32768 zs = 1 := by
  intro zs hp _
  rw [List.perm_nil.1 hp]; rfl
theorem ev_5 : ∀ zs : List (Int × Int), zs.Perm (kept [(5, 1)]) → zs.Pairwise (fun a b => a.1 ≤ b.1) → 1 + tot 32 zs + tot 1024 zs + tot 32768 zs = 4 := by
  intro zs hp _
  rw [List.perm_singleton.1 hp]; rfl
theorem ev_all : ∀ zs : List (Int × Int), zs.Perm (kept [(0, 1048576)]) → zs.Pairwise (fun a b => a.1 ≤ b.1) → 1 + tot 32 zs + tot 1024 zs + tot 32768 zs = 33825 := by
  intro zs hp _
  rw [List.perm_singleton.1 hp]; decide
theorem ev_end : ∀ zs : List (Int × Int), zs.Perm (kept [(1048576, 0)]) → zs.Pairwise (fun a b => a.1 ≤ b.1) → 1 + tot 32 zs + tot 1024 zs + tot 32768 zs = 1 := by
  intro zs hp _
  rw [List.perm_nil.1 hp]; rfl
theorem ev_55 : ∀ zs : List (Int × Int), zs.Perm (kept [(5, 1), (5, 1)]) → zs.Pairwise (fun a b => a.1 ≤ b.1) → 1 + tot 32 zs + tot 1024 zs + tot 32768 zs = 4 := by
  intro zs hp _
  have h : zs = List.replicate 2 (5, 1) := List.perm_replicate.1 hp
  rw [h]; rfl
theorem ev_52 : ∀ zs : List (Int × Int), zs.Perm (kept [(5, 1), (2000, 1)]) → zs.Pairwise (fun a b => a.1 ≤ b.1) → 1 + tot 32 zs + tot 1024 zs + tot 32768 zs = 6 := by
  intro zs hp hs
  have hk : kept [(5, 1), (2000, 1)] = [(5, 1), (2000, 1)] := rfl
  rw [hk] at hp
  have hl := hp.length_eq
  match zs, hl with
  | [u, v], _ =>
    have hu := hp.mem_iff.1 (show u ∈ [u, v] by simp)
    have hv := hp.mem_iff.1 (show v ∈ [u, v] by simp)
    have hn : [u, v].Nodup := hp.nodup_iff.2 (by simp)
    simp at hu hv hn hs
    rcases hu with rfl | rfl <;> rcases hv with rfl | rfl
    · simp at hn
    · rfl
    · simp at hs
    · simp at hn
theorem one_bad (p m : Int) (hf : fits (p, m)) (hm : mayS (p, m) = false) (W : World) :
    Calls Try.prog 6 #[.slice (some ⟨W.heap.size, 0, none⟩) 1 1] (W.alloc (.cells #[.int .i64 p, .int .i64 m] 24)) fun e w' => e = .returned (.tuple #[.int .i64 0, .int .i64 2]) ∧ Below W.heap.size W w' := by
  have h := Tables_bad W.heap.size 0 1 [(p, m)] (fun s hs => by rw [List.mem_singleton] at hs; rw [hs]; exact hf) (by simp) (some ⟨W.heap.size, 0, none⟩) (W.alloc (.cells #[.int .i64 p, .int .i64 m] 24))
    (Or.inr ⟨rfl, by simp, by intro i hi; obtain rfl : i = 0 := by simp at hi; omega
                              simp⟩) ⟨(p, m), by simp, hm⟩
  refine h.mono ?_
  rintro e w' ⟨rfl, hb⟩
  exact ⟨rfl, ((Below.refl _ _).alloc (Nat.le_refl _) _).trans (hb.mono (by simp))⟩

theorem Row.alloc {w : World} {b off : Nat} {xs : List (Int × Int)} (h : Row w b off xs) (o : Obj) : Row (w.alloc o) b off xs := h.below ((Below.refl _ _).alloc (Nat.le_refl _) _)
theorem Row.one (w : World) (p m : Int) (n : Nat) (hn : w.heap.size = n) : Row (w.alloc (.cells #[.int .i64 p, .int .i64 m] 24)) n 0 [(p, m)] := by
  subst hn
  exact ⟨by simp, fun i hi => by
    obtain rfl : i = 0 := by simp at hi; omega
    simp⟩
theorem Row.two (w : World) (p m p' m' : Int) (n : Nat) (hn : w.heap.size = n) : Row (w.alloc (.cells #[.int .i64 p, .int .i64 m, .int .i64 p', .int .i64 m'] 24)) n 0 [(p, m), (p', m')] := by
  subst hn
  exact ⟨by simp, fun i hi => by
    rcases (show i = 0 ∨ i = 1 by simp at hi; omega) with rfl | rfl <;> simp⟩
/-- The memory in which the six lists lie. -/
def kV (w : World) : World :=
  ((((w.alloc (.cells #[.int .i64 5, .int .i64 1] 24)).alloc (.cells #[.int .i64 0, .int .i64 1048576] 24)).alloc (.cells #[.int .i64 1048576, .int .i64 0] 24)).alloc
    (.cells #[.int .i64 5, .int .i64 1, .int .i64 5, .int .i64 1] 24)).alloc (.cells #[.int .i64 5, .int .i64 1, .int .i64 2000, .int .i64 1] 24)
def kW (w : World) : World :=
  (kV w).alloc (.cells #[.slice none 0 0, .slice (some ⟨w.heap.size, 0, none⟩) 1 1, .slice (some ⟨w.heap.size + 1, 0, none⟩) 1 1, .slice (some ⟨w.heap.size + 1 + 1, 0, none⟩) 1 1, .slice (some ⟨w.heap.size + 1 + 1 + 1, 0, none⟩) 2 2, .slice (some ⟨w.heap.size + 1 + 1 + 1 + 1, 0, none⟩) 2 2] 22)
theorem kV_size (w : World) : (kV w).heap.size = w.heap.size + 1 + 1 + 1 + 1 + 1 := by simp [kV]
theorem kW_size (w : World) : (kW w).heap.size = w.heap.size + 1 + 1 + 1 + 1 + 1 + 1 := by simp [kW, kV_size]
def res : List Int := [1, 4, 33825, 1, 4, 6]
theorem kW_rows (w : World) : Row (kW w) w.heap.size 0 [(5, 1)] ∧ Row (kW w) (w.heap.size + 1) 0 [(0, 1048576)] ∧ Row (kW w) (w.heap.size + 1 + 1) 0 [(1048576, 0)] ∧ Row (kW w) (w.heap.size + 1 + 1 + 1) 0 [(5, 1), (5, 1)] ∧ Row (kW w) (w.heap.size + 1 + 1 + 1 + 1) 0 [(5, 1), (2000, 1)] := by
  refine ⟨?_, ?_, ?_, ?_, ?_⟩
  · exact (((((Row.one w 5 1 _ rfl).alloc _).alloc _).alloc _).alloc _).alloc _
  · exact ((((Row.one _ 0 1048576 _ (by simp)).alloc _).alloc _).alloc _).alloc _
  · exact (((Row.one _ 1048576 0 _ (by simp)).alloc _).alloc _).alloc _
  · exact ((Row.two _ 5 1 5 1 _ (by simp)).alloc _).alloc _
  · exact (Row.two _ 5 1 2000 1 _ (by simp)).alloc _
theorem kW_cell (w : World) (k : Nat) (v : Value) (h : #[Value.slice none 0 0, .slice (some ⟨w.heap.size, 0, none⟩) 1 1, .slice (some ⟨w.heap.size + 1, 0, none⟩) 1 1, .slice (some ⟨w.heap.size + 1 + 1, 0, none⟩) 1 1, .slice (some ⟨w.heap.size + 1 + 1 + 1, 0, none⟩) 2 2, .slice (some ⟨w.heap.size + 1 + 1 + 1 + 1, 0, none⟩) 2 2][k]? = some v) :
    (kW w).cell? ⟨w.heap.size + 1 + 1 + 1 + 1 + 1, k, none⟩ = some v := by
  rw [← kV_size]
  unfold kW
  simp [h]
theorem kW_call (w : World) (k : Nat) (hk : k < 6) : ∃ (v : Value) (r : Int), res[k]? = some r ∧ (kW w).cell? ⟨w.heap.size + 1 + 1 + 1 + 1 + 1, k, none⟩ = some v ∧ 0 ≤ r ∧ r ≤ 33825 ∧
    ∀ wr, Below (kW w).heap.size (kW w) wr → Calls Try.prog 6 #[v] wr fun e w' => e = .returned (.tuple #[.int .i64 r, .int .i64 0]) ∧ Below wr.heap.size wr w' := by
  obtain ⟨r0, r1, r2, r3, r4⟩ := kW_rows w
  rcases (show k = 0 ∨ k = 1 ∨ k = 2 ∨ k = 3 ∨ k = 4 ∨ k = 5 by omega) with rfl | rfl | rfl | rfl | rfl | rfl
  · exact ⟨.slice none 0 0, 1, rfl, kW_cell w _ _ rfl, by omega, by omega, fun wr hb => Tables_eval 0 0 0 [] (by simp) (by simp) (by simp) 1 ev_none none wr (Or.inl rfl)⟩
  · exact ⟨_, 4, rfl, kW_cell w _ _ rfl, by omega, by omega, fun wr hb => Tables_eval w.heap.size 0 1 [(5, 1)] (by simp [fits]) (by simp) (by simp [mayS]) 4 ev_5 (some ⟨w.heap.size, 0, none⟩) wr (Or.inr ⟨rfl, r0.below hb⟩)⟩
  · exact ⟨_, 33825, rfl, kW_cell w _ _ rfl, by omega, by omega, fun wr hb => Tables_eval (w.heap.size + 1) 0 1 [(0, 1048576)] (by simp [fits]) (by simp) (by simp [mayS]) 33825 ev_all (some ⟨w.heap.size + 1, 0, none⟩) wr (Or.inr ⟨rfl, r1.below hb⟩)⟩
  · exact ⟨_, 1, rfl, kW_cell w _ _ rfl, by omega, by omega, fun wr hb => Tables_eval (w.heap.size + 1 + 1) 0 1 [(1048576, 0)] (by simp [fits]) (by simp) (by simp [mayS]) 1 ev_end (some ⟨w.heap.size + 1 + 1, 0, none⟩) wr (Or.inr ⟨rfl, r2.below hb⟩)⟩
  · exact ⟨_, 4, rfl, kW_cell w _ _ rfl, by omega, by omega, fun wr hb => Tables_eval (w.heap.size + 1 + 1 + 1) 0 2 [(5, 1), (5, 1)] (by simp [fits]) (by simp) (by simp [mayS]) 4 ev_55 (some ⟨w.heap.size + 1 + 1 + 1, 0, none⟩) wr (Or.inr ⟨rfl, r3.below hb⟩)⟩
  · exact ⟨_, 6, rfl, kW_cell w _ _ rfl, by omega, by omega, fun wr hb => Tables_eval (w.heap.size + 1 + 1 + 1 + 1) 0 2 [(5, 1), (2000, 1)] (by simp [fits]) (by simp) (by simp [mayS]) 6 ev_52 (some ⟨w.heap.size + 1 + 1 + 1 + 1, 0, none⟩) wr (Or.inr ⟨rfl, r4.below hb⟩)⟩
end Go.Proofs.Ythmcempfiimkkab
