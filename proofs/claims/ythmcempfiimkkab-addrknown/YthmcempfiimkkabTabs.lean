/- What addr.tablesOf gives back over a row of spans that lies in memory: the fold that its loop is; each span has pages and ends within the limit. -/
import Derived.Test.YthmcempfiimkkabInts
import Derived.Below
import Derived.Deep.QuietTactic
import Derived.BigQuiet
namespace Go.Proofs.Ythmcempfiimkkab
open Go.ChangeShapes Go.WideShapes Go.ChangeAt Go.RowKit
set_option linter.unusedVariables false

theorem bcell {W w1 : World} (hb : Below W.heap.size W w1) : (∀ b o, b < W.heap.size → w1.cell? ⟨b, o, none⟩ = W.cell? ⟨b, o, none⟩) ∧ (∀ b o, b < W.heap.size → w1.frozen? ⟨b, o, none⟩ = W.frozen? ⟨b, o, none⟩) :=
  ⟨fun b o h => hb.cell (p := ⟨b, o, none⟩) h, fun b o h => hb.frozen (p := ⟨b, o, none⟩) h⟩

/-- A span that has pages and ends within the limit. -/
def okS (s : Int × Int) : Prop := 0 ≤ s.1 ∧ 1 ≤ s.2 ∧ s.1 + s.2 ≤ 1048576
def tbStep (q : Int) (st : Int × Int) (s : Int × Int) : Int × Int :=
  if max st.2 (s.1 / q) < (s.1 + s.2 - 1) / q + 1 then (st.1 + ((s.1 + s.2 - 1) / q + 1 - max st.2 (s.1 / q)), (s.1 + s.2 - 1) / q + 1) else st
def tbTo (q : Int) (xs : List (Int × Int)) : Nat → Int × Int
  | 0 => (0, 0)
  | k + 1 => tbStep q (tbTo q xs k) (xs[k]?.getD (0, 1))
theorem div_bd (a q : Int) (h0 : 0 ≤ a) (hq : 1 ≤ q) : 0 ≤ a / q ∧ a / q ≤ a :=
  ⟨Int.ediv_nonneg h0 (by omega), Int.ediv_le_self _ h0⟩
theorem tb_bd (q : Int) (hq : 1 ≤ q) (xs : List (Int × Int)) (h : ∀ s ∈ xs, okS s) : ∀ k, k ≤ xs.length → 0 ≤ (tbTo q xs k).1 ∧ (tbTo q xs k).1 ≤ (tbTo q xs k).2 ∧ (tbTo q xs k).2 ≤ 1048576
  | 0, _ => by simp [tbTo]
  | k + 1, hk => by
    have ih := tb_bd q hq xs h k (by omega)
    obtain ⟨h1, h2, h3⟩ := h xs[k] (List.getElem_mem _)
    simp only [tbTo, List.getElem?_eq_getElem (show k < xs.length by omega), Option.getD_some]
    have d1 := div_bd (xs[k].1 + xs[k].2 - 1) q (by omega) hq
    have d2 := div_bd xs[k].1 q h1 hq
    unfold tbStep
    split <;> omega

/-- The row of spans that lies at a place. -/
def Row (w : World) (b off : Nat) (xs : List (Int × Int)) : Prop :=
  b < w.heap.size ∧ ∀ i (h : i < xs.length), w.cell? ⟨b, off + i * 2, none⟩ = some (.int .i64 xs[i].1) ∧ w.cell? ⟨b, off + i * 2 + 1, none⟩ = some (.int .i64 xs[i].2)

set_option maxHeartbeats 1000000 in
theorem tablesOf_row (lv q : Int) (hq : 1 ≤ q) (ht : ∀ a w, 0 ≤ a → a ≤ 1048576 → Calls Try.prog 25 #[.int .i64 a, .int .i64 lv] w fun e w' => e = .returned (.int .i64 (a / q)) ∧ w' = w)
    (b off cap : Nat) (xs : List (Int × Int)) (hx : ∀ s ∈ xs, okS s) (hlen : xs.length ≤ 1048576) (w : World) (hr : Row w b off xs) :
    Calls Try.prog 19 #[.slice (some ⟨b, off, none⟩) xs.length cap, .int .i64 lv] w fun e w' => e = .returned (.int .i64 (tbTo q xs xs.length).1) ∧ Below w.heap.size w w' := by
  obtain ⟨hbk, hcell⟩ := hr
  have Ht : Hid _ := ht
  have Hc : Hid _ := hcell
  clear ht hcell
  have Hx : Hid _ := hx
  clear hx
  go_enter Try.func19, Try.ntmps19
  go_wp2
  go_loopw [5, 6, 13] (fun n f i wr => ∃ k : Nat, k ≤ xs.length ∧ i = .int .i64 k ∧ n = .int .i64 (tbTo q xs k).1 ∧ f = .int .i64 (tbTo q xs k).2 ∧ Below w.heap.size w wr) (fun _ _ i _ => xs.length - (intOf i).toNat)
  case atStart => exact ⟨0, Nat.zero_le _, rfl, rfl, rfl, Below.refl _ _⟩
  case round =>
    obtain ⟨k, hk, rfl, rfl, rfl, hb⟩ := hrel
    have hbd := tb_bd q hq xs Hx.out k hk
    by_cases hlt : k < xs.length
    · obtain ⟨hc1, hc2⟩ := bcell hb
      obtain ⟨c1, c2⟩ := Hc.out k hlt
      have c1' := (hc1 _ _ hbk).trans c1
      have c2' := (hc1 _ _ hbk).trans c2
      obtain ⟨hp0, hn1, hpn⟩ := Hx.out xs[k] (List.getElem_mem _)
      have hT : tbTo q xs (k + 1) = tbStep q (tbTo q xs k) (xs[k].1, xs[k].2) := by
        simp only [tbTo, List.getElem?_eq_getElem hlt, Option.getD_some]
      clear c1 c2 hc1 hc2
      have HT : Hid _ := hT
      clear hT
      generalize hgp : xs[k].1 = p at *
      generalize hgn : xs[k].2 = n at *
      generalize hst : tbTo q xs k = st at *
      obtain ⟨sn, sf⟩ := st
      clear hgp hgn hst
      have d1 := div_bd (p + n - 1) q (by omega) hq
      have d2 := div_bd p q hp0 hq
      have HA : Hid _ := fun w => Ht.out p w hp0 (by omega)
      have HB : Hid _ := fun w => Ht.out (p + n - 1) w (by omega) (by omega)
      clear Ht
      generalize hde : (p + n - 1) / q = e at *
      generalize hdf : p / q = f at *
      have HE : Hid _ := hde
      have HF : Hid _ := hdf
      clear hde hdf
      obtain ⟨hb1, hb2, hb3⟩ := hbd
      obtain ⟨d11, d12⟩ := d1
      obtain ⟨d21, d22⟩ := d2
      have hS : tbStep q (sn, sf) (p, n) = if max sf f < e + 1 then (sn + (e + 1 - max sf f), e + 1) else (sn, sf) := by
        unfold tbStep; simp only [HE.out, HF.out]
      have HS : Hid _ := hS
      clear hS
      go_wp2_with fail
      refine (HA.out _).mono ?_; rintro e w' ⟨rfl, rfl⟩
      go_wp2_with fail
      all_goals
        refine (HB.out _).mono ?_; rintro e w' ⟨rfl, rfl⟩
        go_wp2_with fail
      all_goals
        refine ⟨⟨k + 1, by omega, by go_num, congrArg (Value.int .i64) ?_, congrArg (Value.int .i64) ?_, hb.alloc hb.size _⟩, by simp [intOf]; omega⟩
        · rw [HT.out, HS.out]; split <;> simp only <;> omega
        · rw [HT.out, HS.out]; split <;> simp only <;> omega
    · obtain rfl : k = xs.length := by omega
      go_wp2
      go_ret
      exact ⟨rfl, hb⟩
end Go.Proofs.Ythmcempfiimkkab
