/- What Frames of package colour gives back: the frames that have one of some colours, rising, in new memory, or ErrArg; no condition. -/
import Derived.Test.YtoondpgdodmngaaCh
import Derived.Laws.AppendOwnNone
namespace Go.Proofs.Ytoondpgdodmngaa
open Go.ChangeShapes Go.WideShapes Go.ChangeAt Go.RowKit
set_option linter.unusedVariables false

theorem Try.infoI : (Try.prog.info? 3).map (fun i => (i.zero, i.size, i.bytes)) = some (some (.int .i64 0), 1, 8) := by kernel_rfl
/-- Numbers as values. -/
def enI (L : List Int) : List Value := L.map fun x => .int .i64 x
theorem enI_len (L : List Int) : (enI L).length = L.length := by simp [enI]
theorem enI_snoc (L : List Int) (x : Int) : enI (L ++ [x]) = enI L ++ [.int .i64 x] := by simp [enI]
theorem enI_get {L : List Int} {i : Nat} (hi : i < L.length) : (enI L)[i]? = some (.int .i64 (L.getD i 0)) := by
  simp [enI, hi, List.getD_eq_getElem?_getD]
/-- A list of ints of the call's own. -/
def Is (w : World) (base : Nat) (v : Value) (L : List Int) : Prop := w.ownsRow base 3 1 v L.length (enI L)
theorem Is.nil (w : World) (base : Nat) : Is w base (.slice none 0 0) [] := World.ownsRow_nil _ _ _ _
/-- The frames from 0 to F - 1 that have one of the colours. -/
def fr (F : Nat) (n : Int) (l : Nat) (f : Nat → Int) : List Int := ((List.range F).filter fun (k : Nat) => has l f ((k : Int) % n)).map fun (k : Nat) => (k : Int)
theorem fr_zero (n : Int) (l : Nat) (f : Nat → Int) : fr 0 n l f = [] := rfl
theorem fr_succ (k : Nat) (n : Int) (l : Nat) (f : Nat → Int) : fr (k + 1) n l f = fr k n l f ++ (if has l f ((k : Int) % n) then [(k : Int)] else []) := by
  unfold fr
  rw [List.range_succ, List.filter_append, List.map_append]
  congr 1
  cases h : has l f ((k : Int) % n) <;> simp [h]
theorem fr_len (F : Nat) (n : Int) (l : Nat) (f : Nat → Int) : (fr F n l f).length ≤ F := by
  unfold fr
  rw [List.length_map]
  exact Nat.le_trans (List.length_filter_le _ _) (by simp)
theorem ownsRow_less {w : World} {base base' : Nat} {e : TypeId} {s : Nat} {v : Value} {n : Nat} {L : List Value} (h : w.ownsRow base e s v n L) (hb : base' ≤ base) : w.ownsRow base' e s v n L := by
  rcases h with ⟨h0, h⟩
  refine ⟨h0, ?_⟩
  rcases h with h | ⟨g, cap, cur, h1, h2, h3⟩
  · exact Or.inl h
  · exact Or.inr ⟨g, cap, cur, h1, Nat.le_trans hb h2, h3⟩
theorem cell_one_new (w : World) (v : Value) (t : TypeId) : ∀ j u, [v][j]? = some u → (w.alloc (.cells #[v] t)).cell? ((⟨w.heap.size, 0, none⟩ : Addr).add j) = some u := by
  intro j u hu
  rw [Go.WideShapes.add_plain, cell_of_row _ _ (0 + j) _ t (0, 0) (heap_alloc_last w _), Nat.zero_add]
  simpa using hu
/-- What Frames gives back. -/
def Frd (w : World) (F : Nat) (n : Int) (l : Nat) (f : Nat → Int) (e : Ending) (w' : World) : Prop := ∃ v, e = .returned (.tuple #[v, .int .i64 0]) ∧ Is w' w.heap.size v (fr F n l f) ∧ Below w.heap.size w w'
theorem Frames_out {w : World} {a : Option Addr} {l c : Nat} {F n : Int} (hF : ¬ (1 ≤ F ∧ F ≤ 4096)) :
    Calls Try.prog 16 #[.int .i64 F, .int .i64 n, .slice a l c] w fun e w' => e = .returned (.tuple #[.slice none 0 0, .int .i64 2]) ∧ Below w.heap.size w w' := by
  have ha : inB F 1 4096 = false := inB_f (by omega)
  go_enter Try.func16, Try.ntmps16
  go_wp2_with (go_at_call 30; refine (framesMayBe_any _ _).mono ?_; rintro e w' ⟨rfl, rfl⟩)
  go_ret2
  exact ⟨rfl, Below.refl _ _⟩
theorem Frames_no {w : World} {a : Option Addr} {l c : Nat} {f : Nat → Int} {F n : Int} (hl : l ≤ maxLen) (hA : Arg w a l f) (hF : 1 ≤ F ∧ F ≤ 4096) (hn : ¬ okL n l f) :
    Calls Try.prog 16 #[.int .i64 F, .int .i64 n, .slice a l c] w fun e w' => e = .returned (.tuple #[.slice none 0 0, .int .i64 2]) ∧ Below w.heap.size w w' := by
  have ha : inB F 1 4096 = true := inB_t hF.1 hF.2
  have HC : Hid (Calls _ _ _ _ _) := choose_any (c := c) (n := n) hl hA
  have HN : Hid (¬ okL n l f) := hn
  have hzv := (zero_of_info Try.infoA).1
  clear hA hn hF
  go_enter Try.func16, Try.ntmps16
  go_wp2_with (go_at_call 30; refine (framesMayBe_any _ _).mono ?_; rintro e w' ⟨rfl, rfl⟩)
  refine HC.out.mono ?_
  rintro e w1 ⟨g, b, rfl, hb, hq⟩
  obtain rfl : b = false := by
    rcases hq with ⟨_, q, _⟩ | ⟨q, _⟩
    · exact absurd q HN.out
    · exact q
  have HT : Hid _ := stA w1 g (Array.replicate 16 (.bool false)) (by simp)
  have HB : Hid (Below w'.heap.size w' (w1.alloc (.cells (ar g) 41))) := hb.alloc hb.size _
  clear hq hb HC HN
  generalize ar g = C at *
  generalize (Array.replicate 16 (Value.bool false)) = Z at *
  go_wp2_with (refine wpList_store_at rfl 41 (.tmp 8) (.tmp 19) rfl _ _ rfl rfl HT.out ?_)
  go_ret2
  exact ⟨rfl, HB.out⟩
set_option maxRecDepth 100000 in
set_option maxHeartbeats 1000000 in
theorem Frames_ok {w : World} {a : Option Addr} {l c : Nat} {f : Nat → Int} {F : Nat} {n : Int} (hl : l ≤ maxLen) (hA : Arg w a l f) (hF : 1 ≤ F ∧ F ≤ 4096) (hn : okL n l f) :
    Calls Try.prog 16 #[.int .i64 F, .int .i64 n, .slice a l c] w (Frd w F n l f) := by
  have ha : inB F 1 4096 = true := inB_t (by omega) (by omega)
  have HC : Hid (Calls _ _ _ _ _) := choose_any (c := c) (n := n) hl hA
  have HN : Hid (okL n l f) := hn
  obtain ⟨n1, n2⟩ := hn.1
  have hzv := (zero_of_info Try.infoA).1
  obtain ⟨i0, hi, hz0, hz1, hz2⟩ := info_parts Try.infoI
  clear hA hn
  go_enter Try.func16, Try.ntmps16
  go_wp2_with (go_at_call 30; refine (framesMayBe_any _ _).mono ?_; rintro e w' ⟨rfl, rfl⟩)
  refine HC.out.mono ?_
  rintro e w1 ⟨g, b, rfl, hb, hq⟩
  obtain ⟨rfl, hg⟩ : b = true ∧ g = fun (i : Nat) => has l f i := by
    rcases hq with ⟨q1, _, q2⟩ | ⟨_, q⟩
    · exact ⟨q1, q2⟩
    · exact absurd HN.out q
  have HT : Hid _ := stA w1 g (Array.replicate 16 (.bool false)) (by simp)
  have HB : Hid (Below w'.heap.size w' (w1.alloc (.cells (ar g) 41))) := hb.alloc hb.size _
  have HS : Hid (w'.heap.size ≤ (w1.alloc (.cells (ar g) 41)).heap.size) := HB.out.size
  have HX : Hid (w1.heap.size < (w1.alloc (.cells (ar g) 41)).heap.size) := by unfold Hid; simp
  have HG : Hid (∀ r : Nat, r < 16 → (w1.alloc (.cells (ar g) 41)).cell? ⟨w1.heap.size, r, none⟩ = some (.bool (has l f r))) := fun r hr => by
    rw [cell_of_row _ _ r _ 41 (0, 0) (heap_alloc_last w1 _), ar_get _ hr, hg]
  clear hq hb HC HN hg ha
  generalize ar g = C at *
  generalize (Array.replicate 16 (Value.bool false)) = Z at *
  go_wp2_with (refine wpList_store_at rfl 41 (.tmp 8) (.tmp 19) rfl _ _ rfl rfl HT.out ?_)
  clear HT hzv
  generalize w1.alloc (.cells C 41) = W at *
  generalize w1.heap.size = X at *
  go_loopw [10, 11, 24] (fun v q i wr => ∃ (k : Nat) (vv qq : Value), vv = v ∧ qq = q ∧ k ≤ F ∧ i = .int .i64 k ∧ Is wr W.heap.size v (fr k n l f) ∧ Below W.heap.size W wr) (fun _ _ i _ => F - (intOf i).toNat)
  case atStart => exact ⟨0, _, _, rfl, rfl, by omega, rfl, Is.nil _ _, Below.refl _ _⟩
  case round =>
    obtain ⟨k, v, qq, hvv, hqq, hk, rfl, hI, hb⟩ := hrel
    subst hvv hqq
    have HL : Hid (Below W.heap.size W wr) := hb
    have HI : Hid (Is wr W.heap.size v (fr k n l f)) := hI
    have hlen : (fr k n l f).length ≤ F := Nat.le_trans (fr_len k n l f) hk
    clear hb hI
    by_cases hlt : k < F
    · obtain ⟨r, hr⟩ := Int.eq_ofNat_of_zero_le (Int.emod_nonneg (k : Int) (show n ≠ 0 by omega))
      have hr' : (k : Int) % n = (r : Int) := hr
      have hr2 := Int.emod_lt_of_pos (k : Int) (show 0 < n by omega)
      have hm : (k : Int).tmod n = (r : Int) := (Int.tmod_eq_emod_of_nonneg (by omega)).trans hr'
      rw [hr'] at hr2
      have hr3 : (r : Int) < 16 := by omega
      have hn0 : ¬ n = 0 := by omega
      have hc := (HL.out.cell (p := ⟨X, r, none⟩) HX.out).trans (HG.out r (by omega))
      have HR : Hid (fr (k + 1) n l f = fr k n l f ++ (if has l f (r : Int) then [(k : Int)] else [])) := by unfold Hid; rw [fr_succ, hr']
      clear hr hr'
      cases hh : has l f (r : Int)
      · rw [hh] at hc HR
        go_wp2
        go_roundw
        case rel => exact ⟨k + 1, _, _, rfl, rfl, by omega, by go_num, by rw [HR.out]; simpa using HI.out, HL.out⟩
        case measure => simp [intOf]; omega
      · rw [hh] at hc HR
        have hsz := HL.out.size
        go_wp2_with (at_builtin; refine wpList_append_own _ rfl (.tmp 32) (.tmp 34) 28 rfl W.heap.size 3 i0 _ 1 8 Try.underlying28 hi hz0 hz1 hz2 rfl (by decide) _ (fr k n l f).length _ rfl (HI.out.alloc _) ⟨wr.heap.size, 0, none⟩ 1 1 [.int .i64 k] rfl rfl (cell_one_new _ _ _) (by intro u hu; simp at hu; subst hu; rfl) (by unfold maxLen; omega) (by omega) (by simp; omega) ?_; intro v2 w2 o2 gr2 nil2)
        go_roundw
        case rel =>
          refine ⟨k + 1, _, _, rfl, rfl, by omega, by go_num, ?_, (HL.out.alloc hsz _).grown gr2 (by simp; omega) (fun t ht => (HI.out.lt t ht).1)⟩
          rw [HR.out]
          simp only [if_true]
          unfold Is
          rw [enI_snoc, List.length_append]
          exact o2
        case measure => simp [intOf]; omega
    · obtain rfl : k = F := by omega
      go_wp2
      go_ret2
      exact ⟨v, rfl, ownsRow_less HI.out HS.out, HB.out.trans (HL.out.mono HS.out)⟩
end Go.Proofs.Ytoondpgdodmngaa
