/- The inner looks of package cache and what New gives back. -/
import Derived.Test.YtpedgpaebdoafaaCc
namespace Go.Proofs.Ytpedgpaebdoafaa
open Go.ChangeShapes Go.WideShapes Go.ChangeAt Go.RowKit
set_option linter.unusedVariables false

theorem New_no (s k : Int) (h : s < 1 ∨ 4096 < s ∨ k < 1 ∨ 16 < k ∨ bits .and .i64 s (s - 1) ≠ 0) (h0 : -9223372036854775808 < s) (w : World) :
    Calls Try.prog 8 #[.int .i64 s, .int .i64 k] w fun e w' => e = .returned (.tuple #[.pointer none, .int .i64 2]) ∧ w' = w := by
  by_cases a1 : s < 1
  · go_enter Try.func8, Try.ntmps8
    go_wp2
    all_goals (go_ret2; exact ⟨rfl, rfl⟩)
  · by_cases a2 : 4096 < s
    · go_enter Try.func8, Try.ntmps8
      go_wp2
      all_goals (go_ret2; exact ⟨rfl, rfl⟩)
    · by_cases a3 : bits .and .i64 s (s - 1) = 0
      · have h' : k < 1 ∨ 16 < k := by omega
        clear h
        go_enter Try.func8, Try.ntmps8
        go_wp2
        all_goals (go_ret2; exact ⟨rfl, rfl⟩)
      · have hb : (bits .and .i64 s (s - 1) != 0) = true := by simpa using a3
        clear h
        go_enter Try.func8, Try.ntmps8
        go_wp2
        all_goals (go_ret2; exact ⟨rfl, rfl⟩)
theorem Try.infoS : (Try.prog.info? 37).map (fun i => (i.zero, i.size, i.bytes)) = some (some (.slice none 0 0), 1, 24) := by kernel_rfl
theorem Try.infoU : (Try.prog.info? 32).map (fun i => (i.zero, i.size, i.bytes)) = some (some (.int .u64 0), 1, 8) := by kernel_rfl
theorem Try.infoL : (Try.prog.info? 56).map (fun i => (i.zero, i.size, i.bytes)) = some (some (.agg #[.int .i64 0, .int .u64 0]), 2, 16) := by kernel_rfl
/-- What make([][]uint64, n) gives. -/
theorem make_run (n : Nat) (hn : n ≤ 4096) (w : World) : (Instr.makeSlice 52 (.int .i64 n) (.int .i64 n)).run Try.prog w = .ok (.slice (some ⟨w.heap.size, 0, none⟩) n n) (w.alloc (.cells (List.replicate n (.slice none 0 0)).toArray 37)) := by
  obtain ⟨i0, hi, hz0, hz1, hz2⟩ := info_parts Try.infoS
  have h := run_makeSlice (P := Try.prog) w 52 37 i0 (.slice none 0 0) Try.underlying52 hi hz0 .i64 .i64 n n (by omega) (by omega) (by rw [hz1]; simp; omega) (by rw [hz2]; omega) (by omega)
  rw [h]
  have e : madeCells (Value.slice none 0 0).cells ((n : Int).toNat * i0.size) = (List.replicate n (.slice none 0 0)).toArray := by
    apply Array.toList_inj.1
    rw [hz1, Int.toNat_natCast]
    show (madeCells #[.slice none 0 0] (n * 1)).toList = _
    rw [toList_madeCells_one, Nat.mul_one]
  rw [e, Int.toNat_natCast]
theorem new_cache {w w' : World} {n ways : Nat} {ty : TypeId} (h1 : 1 ≤ n) (hn : n ≤ 4096) (k1 : 1 ≤ ways) (k2 : ways ≤ 16)
    (e : w' = (w.alloc (.cells (List.replicate n (.slice none 0 0)).toArray 37)).alloc (.cells #[.int .i64 ways, .slice (some ⟨w.heap.size, 0, none⟩) n n] ty)) :
    ∃ F, Ca w' F (w.heap.size + 1) n ways (fun _ => []) ∧ Kp (fun _ => False) F w w' := by
  have hb : Blk w' w.heap.size 37 (List.replicate n (.slice none 0 0)) := by
    rw [e]
    exact (blk_new w _ 37).kept (World.grownBy_alloc _ _ none) (by simp)
  have hp : Blk w' (w.heap.size + 1) ty [.int .i64 ways, .slice (some ⟨w.heap.size, 0, none⟩) n n] := by
    rw [e]
    have := blk_new (w.alloc (.cells (List.replicate n (.slice none 0 0)).toArray 37)) [.int .i64 ways, .slice (some ⟨w.heap.size, 0, none⟩) n n] ty
    simpa using this
  have G : w.grownBy w' none := by
    rw [e]
    exact (World.grownBy_alloc _ _ none).trans (World.grownBy_alloc _ _ none)
  refine ⟨fun k => k = w.heap.size ∨ k = w.heap.size + 1, ⟨?_, w.heap.size, fun _ => .slice none 0 0, ?_, Or.inr rfl, Or.inl rfl, fun i g _ hg => by cases hg⟩, Kp.of_grown G (by simp) (fun k hk => Or.inr (by omega))⟩
  · intro k hk
    have a1 := hb.lt
    have a2 := hp.lt
    rcases hk with rfl | rfl
    · exact a1
    · exact a2
  · exact ⟨hp.lt, hp.cell 0, hp.cell 1, hp.frozen 1, hb.lt, fun i hi => by rw [hb.cell i]; simp [hi], fun i _ => hb.frozen i, fun i _ => Own.nil _, by omega, fun i _ h => (by cases h), fun i _ h => (by cases h), fun i j g _ _ _ h => (by cases h), fun i _ => (by simp), fun i _ => (by simp), fun i _ t ht => (by simp at ht), k1, k2, h1, hn⟩
theorem New_ok (n ways : Nat) (h1 : 1 ≤ n) (hn : n ≤ 4096) (k1 : 1 ≤ ways) (k2 : ways ≤ 16) (hb : bits .and .i64 n ((n : Int) - 1) = 0) (w : World) :
    Calls Try.prog 8 #[.int .i64 n, .int .i64 ways] w fun e w' => ∃ p F, e = .returned (.tuple #[.pointer (some ⟨p, 0, none⟩), .int .i64 0]) ∧ Ca w' F p n ways (fun _ => []) ∧ Kp (fun _ => False) F w w' := by
  have m6 := make_run n hn w
  have HN := fun w' => new_cache (w := w) (w' := w') (ty := 54) h1 hn k1 k2
  have HN : Hid (∀ w', w' = (w.alloc (.cells (List.replicate n (.slice none 0 0)).toArray 37)).alloc (.cells #[.int .i64 ways, .slice (some ⟨w.heap.size, 0, none⟩) n n] 54) → ∃ F, Ca w' F (w.heap.size + 1) n ways (fun _ => []) ∧ Kp (fun _ => False) F w w') := HN
  generalize (List.replicate n (Value.slice none 0 0)).toArray = C6 at *
  go_enter Try.func8, Try.ntmps8
  go_wp2
  go_ret2
  obtain ⟨F, hF⟩ := HN.out _ rfl
  exact ⟨w.heap.size + 1, F, by simp, hF⟩
/-- A cache that is none: no pointer, or one to a struct without sets. -/
def NoC (w : World) (q : Option Addr) : Prop := q = none ∨ ∃ p, q = some ⟨p, 0, none⟩ ∧ w.cell? ⟨p, 1, none⟩ = some (.slice none 0 0)
theorem made_any {w : World} {p b n ways : Nat} {V : Nat → Value} {f : Nat → List Int} (hM : Cch w p b n ways V f) :
    Calls Try.prog 34 #[.pointer (some ⟨p, 0, none⟩)] w fun e w' => e = .returned (.bool true) ∧ w' = w := by
  have hc := hM.c1
  have h1 := hM.n1
  have h4 := hM.n4
  clear hM
  go_enter Try.func34, Try.ntmps34
  go_wp2
  go_ret
  exact ⟨ret_bool (by simp; omega), rfl⟩
theorem made_nil {w : World} {q : Option Addr} (hN : NoC w q) :
    Calls Try.prog 34 #[.pointer q] w fun e w' => e = .returned (.bool false) ∧ w' = w := by
  rcases hN with rfl | ⟨p, rfl, hc⟩
  · go_enter Try.func34, Try.ntmps34
    go_wp2
    go_ret
    exact ⟨rfl, rfl⟩
  · go_enter Try.func34, Try.ntmps34
    go_wp2
    go_ret
    exact ⟨rfl, rfl⟩
theorem tags_ok {w : World} {p b n ways : Nat} {V : Nat → Value} {f : Nat → List Int} (hM : Cch w p b n ways V f) (i : Nat) (hi : i < n) :
    Calls Try.prog 29 #[.pointer (some ⟨p, 0, none⟩), .int .i64 i] w fun e w' => e = .returned (.tuple #[V i, .int .i64 0]) ∧ w' = w := by
  have hc := hM.c1
  have hr := hM.row i hi
  have h4 := hM.n4
  have HM : Hid (Cch w p b n ways V f) := hM
  clear hM
  generalize V i = v at *
  go_enter Try.func29, Try.ntmps29
  go_wp2_with (go_at_call 34; refine (made_any HM.out).mono ?_; rintro e w' ⟨rfl, rfl⟩)
  go_ret2
  exact ⟨rfl, rfl⟩
theorem tags_no {w : World} {p b n ways : Nat} {V : Nat → Value} {f : Nat → List Int} (hM : Cch w p b n ways V f) (i : Int) (hi : i < 0 ∨ n ≤ i) :
    Calls Try.prog 29 #[.pointer (some ⟨p, 0, none⟩), .int .i64 i] w fun e w' => e = .returned (.tuple #[.slice none 0 0, .int .i64 2]) ∧ w' = w := by
  have hc := hM.c1
  have h4 := hM.n4
  have HM : Hid (Cch w p b n ways V f) := hM
  clear hM
  go_enter Try.func29, Try.ntmps29
  go_wp2_with (go_at_call 34; refine (made_any HM.out).mono ?_; rintro e w' ⟨rfl, rfl⟩)
  all_goals (go_ret2; exact ⟨rfl, rfl⟩)
theorem tags_nil {w : World} {q : Option Addr} (hN : NoC w q) (i : Int) :
    Calls Try.prog 29 #[.pointer q, .int .i64 i] w fun e w' => e = .returned (.tuple #[.slice none 0 0, .int .i64 1]) ∧ w' = w := by
  go_enter Try.func29, Try.ntmps29
  go_wp2_with (go_at_call 34; refine (made_nil hN).mono ?_; rintro e w' ⟨rfl, rfl⟩)
  go_ret2
  exact ⟨rfl, rfl⟩
/-- Where a tag stands. -/
def idx (l : List Int) (t : Int) : Int := if t ∈ l then (l.idxOf t : Int) else -1
theorem idx_at {l : List Int} {t : Int} {k : Nat} (h : l[k]? = some t) (hb : ∀ j, j < k → l[j]? ≠ some t) : idx l t = k := by
  unfold idx
  rw [if_pos (List.mem_of_getElem? h)]
  obtain ⟨hk, e⟩ := List.getElem?_eq_some_iff.1 h
  have h1 : l.idxOf t < l.length := List.idxOf_lt_length_of_mem (List.mem_of_getElem? h)
  have h2 : l[l.idxOf t]? = some t := by rw [List.getElem?_eq_getElem h1, List.getElem_idxOf]
  have h3 : ¬ l.idxOf t < k := fun q => hb _ q h2
  have h4 : ¬ k < l.idxOf t := fun q => by
    have := List.not_of_lt_findIdx (p := (· == t)) (xs := l) (i := k) (by simpa [List.idxOf] using q)
    simp [e] at this
  omega
theorem idx_no {l : List Int} {t : Int} (hb : ∀ j, j < l.length → l[j]? ≠ some t) : idx l t = -1 := by
  unfold idx
  rw [if_neg]
  intro h
  obtain ⟨k, hk⟩ := List.getElem?_of_mem h
  exact hb k (List.getElem?_eq_some_iff.1 hk).1 hk
theorem Own.cell {w : World} {v : Value} {l : List Int} (h : Own w v l) {k : Nat} {t : Int} (hk : l[k]? = some t) : ∃ g cap, v = .slice (some ⟨g, 0, none⟩) l.length cap ∧ w.cell? ⟨g, k, none⟩ = some (.int .u64 t) := by
  obtain ⟨hlt, _⟩ := List.getElem?_eq_some_iff.1 hk
  rcases h.shape with ⟨_, rfl⟩ | ⟨g, cap, L, h1, h2, h3, h4, h5, h6⟩
  · simp at hlt
  · refine ⟨g, cap, h1, ?_⟩
    rw [h2.cell k, ← List.getElem?_take_of_lt hlt, h6, tv_get, hk]
    rfl
theorem Own.len {w : World} {v : Value} {l : List Int} (h : Own w v l) : ∃ a cap, v = .slice a l.length cap := by
  rcases h.shape with ⟨h1, rfl⟩ | ⟨g, cap, L, h1, _⟩
  · exact ⟨none, 0, h1⟩
  · exact ⟨_, _, h1⟩
theorem Index_any {w : World} {v : Value} {l : List Int} (ho : Own w v l) (hl : l.length ≤ 4096) (t : Int) :
    Calls Try.prog 30 #[v, .int .u64 t] w fun e w' => e = .returned (.int .i64 (idx l t)) ∧ w' = w := by
  obtain ⟨a, cap, rfl⟩ := ho.len
  have HO : Hid (Own w (.slice a l.length cap) l) := ho
  clear ho
  go_enter Try.func30, Try.ntmps30
  go_wp2_with fail
  go_loop [8] (fun i => ∃ k : Nat, k ≤ l.length ∧ i = .int .i64 k ∧ ∀ j, j < k → l[j]? ≠ some t) (fun i => l.length - (intOf i).toNat)
  case atStart => exact ⟨0, by omega, rfl, fun j hj => by omega⟩
  case round =>
    obtain ⟨k, hk, rfl, hb⟩ := hrel
    have HB : Hid (∀ j, j < k → l[j]? ≠ some t) := hb
    clear hb
    by_cases hlt : k < l.length
    · have hg : l[k]? = some l[k] := List.getElem?_eq_getElem hlt
      obtain ⟨g, cap', e1, hc⟩ := HO.out.cell hg
      cases e1
      have HG : Hid (l[k]? = some l[k]) := hg
      clear hg
      generalize l[k] = x at *
      by_cases e : t = x
      · subst e
        have HI : Hid (idx l t = k) := idx_at HG.out HB.out
        go_wp2
        go_ret
        exact ⟨ret_int HI.out.symm, rfl⟩
      · go_wp2
        go_round
        case rel =>
          refine ⟨k + 1, by omega, by go_num, fun j hj => ?_⟩
          by_cases q : j < k
          · exact HB.out j q
          · obtain rfl : j = k := by omega
            rw [HG.out]
            intro z
            injection z with z
            exact e z.symm
        case measure => simp [intOf]; omega
    · obtain rfl : k = l.length := by omega
      go_wp2
      go_ret
      exact ⟨ret_int (idx_no HB.out).symm, rfl⟩
theorem idx_pos (l : List Int) (t : Int) : decide (idx l t ≥ 0) = decide (t ∈ l) := by
  unfold idx
  split <;> rename_i h
  · simp [h]
  · simp [h]
theorem Contains_any {w : World} {v : Value} {l : List Int} (ho : Own w v l) (hl : l.length ≤ 4096) (t : Int) :
    Calls Try.prog 33 #[v, .int .u64 t] w fun e w' => e = .returned (.bool (decide (t ∈ l))) ∧ w' = w := by
  have HI : Hid _ := idx_pos l t
  have HC : Hid (Calls _ _ _ _ _) := Index_any ho hl t
  obtain ⟨a, cap, rfl⟩ := ho.len
  clear ho
  generalize idx l t = x at *
  go_enter Try.func33, Try.ntmps33
  go_wp2_with fail
  refine HC.out.mono ?_
  rintro e w' ⟨rfl, rfl⟩
  go_wp2
  go_ret
  exact ⟨ret_bool HI.out, rfl⟩
end Go.Proofs.Ytpedgpaebdoafaa
