/- Of spans and one more: the order does not count, nor a cut; it makes not fewer tables, and at most as many more as it needs alone; for every list, span and number. -/
import Derived.Test.YthmcempfiimkkabFewMath
import Derived.Deep.AppendLies
namespace Go.Proofs.Ythmcempfiimkkab
open Go.ChangeShapes Go.WideShapes Go.ChangeAt Go.RowKit
set_option linter.unusedVariables false

theorem Row.one (w : World) (p m : Int) : Row (w.alloc (.cells #[.int .i64 p, .int .i64 m] 24)) w.heap.size 0 [(p, m)] :=
  ⟨by simp, fun i hi => by
    obtain rfl : i = 0 := by simp at hi; omega
    simp⟩

theorem lies_below {w w' : World} {b off : Nat} {ao : Option Addr} {xs : List (Int × Int)} (h : xs = [] ∨ ao = some ⟨b, off, none⟩ ∧ Row w b off xs) (hb : Below w.heap.size w w') : xs = [] ∨ ao = some ⟨b, off, none⟩ ∧ Row w' b off xs :=
  h.imp id (fun h => ⟨h.1, h.2.below hb⟩)
/-- The box of a span lies at a block. -/
def Box (w : World) (n : Nat) (p m : Int) : Prop := n < w.heap.size ∧ w.cell? ⟨n, 0, none⟩ = some (.int .i64 p) ∧ w.cell? ⟨n, 1, none⟩ = some (.int .i64 m)
theorem Box.new (w : World) (p m : Int) : Box (w.alloc (.cells #[.int .i64 p, .int .i64 m] 24)) w.heap.size p m := ⟨by simp, by simp, by simp⟩
theorem Box.below {w w' : World} {n : Nat} {p m : Int} (h : Box w n p m) (hb : Below w.heap.size w w') : Box w' n p m :=
  ⟨Nat.lt_of_lt_of_le h.1 hb.size, ((bcell hb).1 _ _ h.1).trans h.2.1, ((bcell hb).1 _ _ h.1).trans h.2.2⟩
theorem fits_one {p m : Int} (h : fits (p, m)) : ∀ s ∈ [(p, m)], fits s := fun s hs => by rw [List.mem_singleton] at hs; rw [hs]; exact h

theorem own_one (w : World) (base : Nat) (p m : Int) (hb : base ≤ w.heap.size) : (w.alloc (.cells #[.int .i64 p, .int .i64 m] 24)).ownsRow base 24 2 (.slice (some ⟨w.heap.size, 0, none⟩) 1 1) 1 (flat [(p, m)]) :=
  ⟨rfl, .inr ⟨w.heap.size, 1, _, rfl, hb, Go.heap_alloc_new w _, Nat.le_refl _, by simp [maxLen], rfl, rfl⟩⟩
theorem flat_snoc (ys : List (Int × Int)) (s : Int × Int) : flat (ys ++ [s]) = flat ys ++ [.int .i64 s.1, .int .i64 s.2] := by simp [flat]
theorem row_of_owns {w : World} {base g cap : Nat} {ys : List (Int × Int)} (h : w.ownsRow base 24 2 (.slice (some ⟨g, 0, none⟩) ys.length cap) ys.length (flat ys)) : Row w g 0 ys := by
  rcases h.2 with ⟨hnil, _⟩ | ⟨g', cap', cur, hv, hbase, hb, h1, h2, h3, h4⟩
  · cases hnil
  · cases hv
    have hH := holds_of_owns hb h4
    refine ⟨(Array.getElem?_eq_some_iff.1 hb).1, fun i hi => ?_⟩
    have hi' : i < ys.toArray.size := by simpa using hi
    have c0 := (hH.cell hi' (show 0 < 2 by omega)).1
    have c1 := (hH.cell hi' (show 1 < 2 by omega)).1
    rw [getElem!_pos ys.toArray i hi'] at c0 c1
    exact ⟨by simpa [encS] using c0, by simpa [encS] using c1⟩
/-- A span, and behind it the spans from j on, the last one first. -/
def rowA (s : Int × Int) (xs : List (Int × Int)) (j : Nat) : List (Int × Int) := s :: (xs.drop j).reverse
theorem rowA_end (s : Int × Int) (xs : List (Int × Int)) : rowA s xs xs.length = [s] := by simp [rowA]
theorem rowA_zero (s : Int × Int) (xs : List (Int × Int)) : rowA s xs 0 = s :: xs.reverse := by simp [rowA]
theorem rowA_step (s : Int × Int) (xs : List (Int × Int)) (j : Nat) (h : j < xs.length) : rowA s xs j = rowA s xs (j + 1) ++ [(xs[j].1, xs[j].2)] := by
  unfold rowA
  rw [List.drop_eq_getElem_cons h, List.reverse_cons]
  rfl
theorem rowA_len (s : Int × Int) (xs : List (Int × Int)) (j : Nat) : (rowA s xs j).length ≤ xs.length + 1 := by simp [rowA]

set_option maxHeartbeats 1000000 in
set_option maxRecDepth 100000 in
theorem few_early (b off cap : Nat) (xs : List (Int × Int)) (hx : ∀ s ∈ xs, fits s) (hm : xs.length ≤ maxLen) (p m t : Int) (hs : fits (p, m)) (ao : Option Addr) (w : World) (hr : xs = [] ∨ ao = some ⟨b, off, none⟩ ∧ Row w b off xs)
    (hno : ((tres xs).2 != 0) = true ∨ ((tres xs).2 != 0) = false ∧ ((tres [(p, m)]).2 != 0) = true ∨ ((tres xs).2 != 0) = false ∧ ((tres [(p, m)]).2 != 0) = false ∧ (100 : Int) < xs.length) :
    Calls Try.prog 3 #[.slice ao xs.length cap, .agg #[.int .i64 p, .int .i64 m], .int .i64 t] w fun e w' => e = .returned (.bool true) ∧ Below w.heap.size w w' := by
  have Hr : Hid _ := hr
  have Hx : Hid _ := hx
  have Hs : Hid _ := hs
  have Hn : Hid _ := hno
  have hml : xs.length ≤ 9223372036854775807 := hm
  have Hm : Hid _ := hm
  clear hr hx hs hno hm
  go_enter Try.func3, Try.ntmps3
  go_wp2_with fail
  refine (works_any _).mono ?_
  rintro e w1 ⟨rfl, hb1⟩
  have hA : Below w.heap.size w w1 := ((Below.refl _ _).alloc (Nat.le_refl _) _).trans (hb1.mono (by simp))
  have hX : Box w1 w.heap.size p m := (Box.new w p m).below hb1
  clear hb1
  go_wp2_with fail
  refine (Tables_any b off cap xs Hx.out Hm.out ao w1 (lies_below Hr.out hA)).mono ?_
  rintro e w2 ⟨rfl, hb2⟩
  obtain ⟨x0, x1, x2⟩ := hX.below hb2
  have hB : Below w.heap.size w w2 := hA.trans (hb2.mono hA.size)
  have Hl : Hid _ := lies_below Hr.out hB
  clear hA hX hb2 Hr
  go_wp2_with fail
  refine (Tables_any w2.heap.size 0 1 [(p, m)] (fits_one Hs.out) (by simp [maxLen]) (some ⟨w2.heap.size, 0, none⟩) _ (Or.inr ⟨rfl, Row.one w2 p m⟩)).mono ?_
  rintro e w3 ⟨rfl, hb3⟩
  have hX3 : Box w3 w.heap.size p m := Box.below (w := w2.alloc (.cells #[.int .i64 p, .int .i64 m] 24)) (Box.below ⟨x0, x1, x2⟩ ((Below.refl _ _).alloc (Nat.le_refl _) _)) hb3
  have hC : Below w.heap.size w w3 := (hB.alloc hB.size _).trans (hb3.mono (by simp; have := hB.size; omega))
  have hD : Below w2.heap.size w2 w3 := ((Below.refl _ _).alloc (Nat.le_refl _) _).trans (hb3.mono (by simp))
  have HL : Hid _ := lies_below Hl.out hD
  clear x0 x1 x2 hb3 hB hD Hl
  generalize tres xs = r1 at *
  generalize tres [(p, m)] = r2 at *
  obtain ⟨n1, e1⟩ := r1
  obtain ⟨n2, e2⟩ := r2
  rcases Hn.out with h | ⟨h, h'⟩ | ⟨h, h', h''⟩
  · go_wp2
    go_ret
    exact ⟨rfl, hC⟩
  · go_wp2
    go_ret
    exact ⟨rfl, hC⟩
  · go_wp2
    go_ret
    exact ⟨rfl, hC⟩

set_option maxHeartbeats 1000000 in
set_option maxRecDepth 100000 in
theorem few_main (b off cap : Nat) (xs : List (Int × Int)) (hx : ∀ s ∈ xs, fits s) (hm : xs.length ≤ maxLen) (p m t : Int) (hs : fits (p, m)) (ao : Option Addr) (w : World) (hr : xs = [] ∨ ao = some ⟨b, off, none⟩ ∧ Row w b off xs)
    (ho1 : (tres xs).2 = 0) (ho2 : (tres [(p, m)]).2 = 0) (hle : xs.length ≤ 100) :
    Calls Try.prog 3 #[.slice ao xs.length cap, .agg #[.int .i64 p, .int .i64 m], .int .i64 t] w fun e w' => e = .returned (.bool true) ∧ Below w.heap.size w w' := by
  have Hr : Hid _ := hr
  have Hx : Hid _ := hx
  have Hs : Hid _ := hs
  have O1 : Hid _ := ho1
  have O2 : Hid _ := ho2
  have hml : xs.length ≤ 9223372036854775807 := hm
  have Hm : Hid _ := hm
  clear hr hx hs ho1 ho2 hm
  go_enter Try.func3, Try.ntmps3
  go_wp2_with fail
  refine (works_any _).mono ?_
  rintro e w1 ⟨rfl, hb1⟩
  have hA : Below w.heap.size w w1 := ((Below.refl _ _).alloc (Nat.le_refl _) _).trans (hb1.mono (by simp))
  have hX : Box w1 w.heap.size p m := (Box.new w p m).below hb1
  clear hb1
  go_wp2_with fail
  refine (Tables_any b off cap xs Hx.out Hm.out ao w1 (lies_below Hr.out hA)).mono ?_
  rintro e w2 ⟨rfl, hb2⟩
  obtain ⟨x0, x1, x2⟩ := hX.below hb2
  have hB : Below w.heap.size w w2 := hA.trans (hb2.mono hA.size)
  have Hl : Hid _ := lies_below Hr.out hB
  clear hA hX hb2 Hr
  go_wp2_with fail
  refine (Tables_any w2.heap.size 0 1 [(p, m)] (fits_one Hs.out) (by simp [maxLen]) (some ⟨w2.heap.size, 0, none⟩) _ (Or.inr ⟨rfl, Row.one w2 p m⟩)).mono ?_
  rintro e w3 ⟨rfl, hb3⟩
  have hX3 : Box w3 w.heap.size p m := Box.below (w := w2.alloc (.cells #[.int .i64 p, .int .i64 m] 24)) (Box.below ⟨x0, x1, x2⟩ ((Below.refl _ _).alloc (Nat.le_refl _) _)) hb3
  have hC : Below w.heap.size w w3 := (hB.alloc hB.size _).trans (hb3.mono (by simp; have := hB.size; omega))
  have hD : Below w2.heap.size w2 w3 := ((Below.refl _ _).alloc (Nat.le_refl _) _).trans (hb3.mono (by simp))
  have HL : Hid _ := lies_below Hl.out hD
  clear x0 x1 x2 hb3 hB hD Hl
  have V1 := tres_ok O1.out
  have V2 := tres_ok O2.out
  have hpm := V2.2.1 (p, m) (by simp)
  simp [mayS] at hpm
  obtain ⟨⟨hp0, hm0⟩, hpm⟩ := hpm
  rw [V1.2.2, V2.2.2]
  have TT : Hid _ := total_turned xs (p, m)
  have T1 := total_bd xs
  have T2 := total_bd [(p, m)]
  generalize total xs = n1 at *
  generalize total [(p, m)] = n2 at *
  obtain ⟨x0, x1, x2⟩ := hX3
  have HV : Hid _ := V1
  clear V1 V2
  obtain ⟨i0, hi, hz0, hz1, hz2⟩ := info_parts Try.infoS
  go_wp2
  have hc0 : 0 ≤ max 0 (min t m) := by omega
  have hc1 : max 0 (min t m) ≤ m := by omega
  generalize max 0 (min t m) = c at *
  go_loopw [11, 12, 13] (fun v1 v2 i wr => ∃ (j g1 k1 g2 k2 : Nat), j ≤ xs.length ∧ i = .int .i64 ((j : Int) - 1) ∧ v1 = .slice (some ⟨g1, 0, none⟩) (rowA (p, m) xs j).length k1 ∧ v2 = .slice (some ⟨g2, 0, none⟩) (rowA (p + c, m - c) xs j).length k2 ∧ g1 ≠ g2 ∧
      wr.ownsRow w3.heap.size 24 2 (.slice (some ⟨g1, 0, none⟩) (rowA (p, m) xs j).length k1) (rowA (p, m) xs j).length (flat (rowA (p, m) xs j)) ∧
      wr.ownsRow w3.heap.size 24 2 (.slice (some ⟨g2, 0, none⟩) (rowA (p + c, m - c) xs j).length k2) (rowA (p + c, m - c) xs j).length (flat (rowA (p + c, m - c) xs j)) ∧ Below w3.heap.size w3 wr) (fun _ _ i _ => (intOf i + 1).toNat)
  case atStart =>
    refine ⟨xs.length, w3.heap.size, 1, w3.heap.size + 1, 1, Nat.le_refl _, rfl, ?_, ?_, by omega, ?_, ?_, ?_⟩
    · rw [rowA_end]; rfl
    · rw [rowA_end]; rfl
    · rw [rowA_end]; exact (own_one w3 _ p m (Nat.le_refl _)).alloc _
    · rw [rowA_end]
      have := own_one (w3.alloc (.cells #[.int .i64 p, .int .i64 m] 24)) w3.heap.size (p + c) (m - c) (by simp)
      rw [show (w3.alloc (.cells #[.int .i64 p, .int .i64 m] 24)).heap.size = w3.heap.size + 1 by simp] at this
      exact this
    · exact ((Below.refl _ _).alloc (Nat.le_refl _) _).alloc (by simp) _
  case round =>
    obtain ⟨j, g1, k1, g2, k2, hj, rfl, rfl, rfl, hne, o1, o2, hb⟩ := hrel
    have hl1 := rowA_len (p, m) xs j
    have hl2 := rowA_len (p + c, m - c) xs j
    cases j with
    | zero =>
      obtain ⟨y1, y2⟩ : wr.cell? ⟨w.heap.size, 0, none⟩ = some (.int .i64 p) ∧ wr.cell? ⟨w.heap.size, 1, none⟩ = some (.int .i64 m) := ⟨((bcell hb).1 _ _ x0).trans x1, ((bcell hb).1 _ _ x0).trans x2⟩
      have S1 : Hid _ := rowA_zero (p, m) xs
      have S2 : Hid _ := rowA_zero (p + c, m - c) xs
      have hsz := hb.size
      generalize hA : rowA (p, m) xs 0 = A at *
      generalize hB' : rowA (p + c, m - c) xs 0 = B at *
      have HN : Hid _ := hne
      clear hA hB' hne
      go_wp2_with (at_builtin; refine wpList_append_lies _ rfl (.tmp 78) (.tmp 83) 22 rfl w3.heap.size 24 i0 _ 2 16 Try.underlying22 hi hz0 hz1 hz2 rfl (by decide) (.slice (some ⟨g2, 0, none⟩) B.length k2) B.length _ rfl (o2.alloc _) ⟨wr.heap.size, 0, none⟩ 1 1 [.int .i64 p, .int .i64 c] rfl rfl (cell_two_new _ _ _ _) (by intro u hu; simp at hu; rcases hu with rfl | rfl <;> rfl) (by omega) (by unfold maxLen; omega) (by omega) (by simp; omega) (wr.heap.size + 1) (by simp) ?_; intro g5 k5 w5 o5 gr5 at5 lt5)
      have q5 : g5 = g2 ∨ g5 = wr.heap.size + 1 := at5.imp (fun h => by simpa [Value.ownBlock] using h.symm) id
      have o1' : w5.ownsRow w3.heap.size 24 2 (.slice (some ⟨g1, 0, none⟩) A.length k1) A.length (flat A) :=
        (o1.alloc _).kept gr5 (Or.inr (fun h => HN.out (by simpa [Value.ownBlock] using h)))
      have hb5 : Below w3.heap.size w3 w5 := (hb.alloc hsz _).grown gr5 (by simp; omega) (fun k hk => (o2.lt k hk).1)
      have rA : Row w5 g1 0 A := row_of_owns o1'
      have rB : Row w5 g5 0 (B ++ [(p, c)]) := row_of_owns (base := w3.heap.size) (cap := k5) (by rw [flat_snoc, List.length_append]; exact o5)
      have mA : ∀ s ∈ A, mayS s = true ∧ fits s := by
        intro s hs
        rw [S1.out] at hs
        rcases List.mem_cons.1 hs with rfl | hs
        · exact ⟨by simp [mayS]; omega, Hs.out⟩
        · exact ⟨HV.out.2.1 s (List.mem_reverse.1 hs), Hx.out s (List.mem_reverse.1 hs)⟩
      have mB : ∀ s ∈ B ++ [(p, c)], mayS s = true ∧ fits s := by
        intro s hs
        rw [S2.out] at hs
        rcases List.mem_append.1 hs with hs | hs
        · rcases List.mem_cons.1 hs with rfl | hs
          · exact ⟨by simp [mayS]; omega, by constructor <;> simp only <;> omega⟩
          · exact ⟨HV.out.2.1 s (List.mem_reverse.1 hs), Hx.out s (List.mem_reverse.1 hs)⟩
        · rw [List.mem_singleton] at hs; subst hs
          exact ⟨by simp [mayS]; omega, by constructor <;> simp only <;> omega⟩
      have hBl : (B ++ [(p, c)]).length = B.length + 1 := by simp
      have tA : tres A = ((total A : Int), 0) := tres_val (by omega) (fun s hs => (mA s hs).1)
      have tB : tres (B ++ [(p, c)]) = ((total A : Int), 0) := by
        rw [tres_val (by omega) (fun s hs => (mB s hs).1), S2.out, total_cut xs p m c hc0 hc1, ← S1.out]
      have tT := TT.out
      rw [← S1.out] at tT
      have hTA := Tables_any g1 0 k1 A (fun s hs => (mA s hs).2) (by unfold maxLen; omega) (some ⟨g1, 0, none⟩) w5 (Or.inr ⟨rfl, rA⟩)
      have hTB := fun wx (hbx : Below w5.heap.size w5 wx) => Tables_any g5 0 k5 (B ++ [(p, c)]) (fun s hs => (mB s hs).2) (by unfold maxLen; omega) (some ⟨g5, 0, none⟩) wx (Or.inr ⟨rfl, rB.below hbx⟩)
      rw [tA] at hTA
      rw [tB, hBl] at hTB
      generalize total A = ta at *
      obtain ⟨tt1, tt2⟩ := tT
      obtain ⟨T11, T12⟩ := T1
      obtain ⟨T21, T22⟩ := T2
      have HTB : Hid _ := hTB
      have HD : Hid _ := hC.trans (hb5.mono hC.size)
      clear hTB tA tB mA mB rA rB o1' o5 gr5 at5 q5 o1 o2 hb hb5 y1 y2 x1 x2 TT hBl S1 S2 HV hC
      refine hTA.mono ?_
      rintro e w6 ⟨rfl, hb6⟩
      clear hTA
      go_wp2_with fail
      refine (HTB.out _ hb6).mono ?_
      rintro e w7 ⟨rfl, hb7⟩
      go_wp2
      go_ret
      exact ⟨ret_bool (decide_eq_true (show (1 : Int) ≤ (n2 : Int) by omega)), (HD.out.trans (hb6.mono HD.out.size)).trans (hb7.mono (Nat.le_trans HD.out.size hb6.size))⟩
    | succ j =>
      have hlt : j < xs.length := by omega
      rw [show ((j + 1 : Nat) : Int) - 1 = (j : Int) by omega]
      obtain ⟨rfl, hrow⟩ := HL.out.resolve_left (fun h => by rw [h] at hlt; simp at hlt)
      obtain ⟨hbk, d1, d2⟩ : b < w3.heap.size ∧ w3.cell? ⟨b, off + j * 2, none⟩ = some (.int .i64 xs[j].1) ∧ w3.cell? ⟨b, off + j * 2 + 1, none⟩ = some (.int .i64 xs[j].2) := ⟨hrow.1, hrow.2 j hlt⟩
      have e1 := ((bcell hb).1 _ _ hbk).trans d1
      have e2 := ((bcell hb).1 _ _ hbk).trans d2
      have S1 : Hid _ := rowA_step (p, m) xs j hlt
      have S2 : Hid _ := rowA_step (p + c, m - c) xs j hlt
      clear hrow
      generalize xs[j].1 = sp at *
      generalize xs[j].2 = sm at *
      generalize hA : rowA (p, m) xs (j + 1) = A at *
      generalize hB' : rowA (p + c, m - c) xs (j + 1) = B at *
      have D1 : Hid _ := d1
      have D2 : Hid _ := d2
      have HN : Hid _ := hne
      clear d1 d2 hA hB' hne
      have hsz := hb.size
      go_wp2_with (first
        | (at_builtin; refine wpList_append_lies _ rfl (.tmp 64) (.tmp 69) 22 rfl w3.heap.size 24 i0 _ 2 16 Try.underlying22 hi hz0 hz1 hz2 rfl (by decide) (.slice (some ⟨g1, 0, none⟩) A.length k1) A.length _ rfl (o1.alloc _) ⟨wr.heap.size, 0, none⟩ 1 1 [.int .i64 sp, .int .i64 sm] rfl rfl (cell_two_new _ _ _ _) (by intro u hu; simp at hu; rcases hu with rfl | rfl <;> rfl) (by omega) (by unfold maxLen; omega) (by omega) (by simp; omega) (wr.heap.size + 1) (by simp) ?_; intro g3 k3 w4 o3 gr3 at3 lt3; have hb4 : Below w3.heap.size w3 w4 := (hb.alloc hsz _).grown gr3 (by simp; omega) (fun k hk => (o1.lt k hk).1); have f1 := ((bcell hb4).1 _ _ hbk).trans D1.out; have f2 := ((bcell hb4).1 _ _ hbk).trans D2.out; have hsz4 := hb4.size)
        | (at_builtin; refine wpList_append_lies _ rfl (.tmp 71) (.tmp 76) 22 rfl w3.heap.size 24 i0 _ 2 16 Try.underlying22 hi hz0 hz1 hz2 rfl (by decide) (.slice (some ⟨g2, 0, none⟩) B.length k2) B.length _ rfl (((o2.alloc _).kept gr3 (Or.inr (fun h => HN.out (by simpa [Value.ownBlock] using h.symm)))).alloc _) ⟨w4.heap.size, 0, none⟩ 1 1 [.int .i64 sp, .int .i64 sm] rfl rfl (cell_two_new _ _ _ _) (by intro u hu; simp at hu; rcases hu with rfl | rfl <;> rfl) (by omega) (by unfold maxLen; omega) (by omega) (by simp; omega) (w4.heap.size + 1) (by simp) ?_; intro g5 k5 w5 o5 gr5 at5 lt5))
      have q1 : g2 < wr.heap.size := (o2.lt g2 rfl).2
      have q3 : g3 = g1 ∨ g3 = wr.heap.size + 1 := at3.imp (fun h => by simpa [Value.ownBlock] using h.symm) id
      have q5 : g5 = g2 ∨ g5 = w4.heap.size + 1 := at5.imp (fun h => by simpa [Value.ownBlock] using h.symm) id
      have q : g1 ≠ g2 := HN.out
      have o3' : w5.ownsRow w3.heap.size 24 2 (.slice (some ⟨g3, 0, none⟩) (A.length + 1) k3) (A.length + 1) (flat A ++ [.int .i64 sp, .int .i64 sm]) :=
        (o3.alloc _).kept gr5 (Or.inr (fun h => by
          have : g3 = g2 := by simpa [Value.ownBlock] using h
          omega))
      go_roundw
      case rel =>
        refine ⟨j, g3, k3, g5, k5, by omega, rfl, by rw [S1.out]; simp, by rw [S2.out]; simp, by omega, ?_, ?_, (hb4.alloc hsz4 _).grown gr5 (by simp; omega) (fun k hk => (o2.lt k hk).1)⟩
        · rw [S1.out, flat_snoc, List.length_append]; exact o3'
        · rw [S2.out, flat_snoc, List.length_append]; exact o5
      case measure => simp [intOf]

theorem few_walk (b off cap : Nat) (xs : List (Int × Int)) (hx : ∀ s ∈ xs, fits s) (hm : xs.length ≤ maxLen) (p m t : Int) (hs : fits (p, m)) (ao : Option Addr) (w : World) (hr : xs = [] ∨ ao = some ⟨b, off, none⟩ ∧ Row w b off xs) :
    Calls Try.prog 3 #[.slice ao xs.length cap, .agg #[.int .i64 p, .int .i64 m], .int .i64 t] w fun e w' => e = .returned (.bool true) ∧ Below w.heap.size w w' := by
  by_cases h1 : (tres xs).2 = 0
  · by_cases h2 : (tres [(p, m)]).2 = 0
    · by_cases h3 : xs.length ≤ 100
      · exact few_main b off cap xs hx hm p m t hs ao w hr h1 h2 h3
      · exact few_early b off cap xs hx hm p m t hs ao w hr (Or.inr (Or.inr ⟨by simp [h1], by simp [h2], by omega⟩))
    · exact few_early b off cap xs hx hm p m t hs ao w hr (Or.inr (Or.inl ⟨by simp [h1], by simp [h2]⟩))
  · exact few_early b off cap xs hx hm p m t hs ao w hr (Or.inl (by simp [h1]))
end Go.Proofs.Ythmcempfiimkkab
