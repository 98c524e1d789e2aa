/- The closed statement AddrKnown walked: the chapter's examples, both ends, one behind the other. -/
import Derived.Test.YthmcempfiimkkabKnFacts
import Derived.Deep.AppendLies
namespace Go.Proofs.Ythmcempfiimkkab
open Go.ChangeShapes Go.WideShapes Go.ChangeAt Go.RowKit
set_option linter.unusedVariables false

theorem Try.info3 : (Try.prog.info? 3).map (fun i => (i.zero, i.size, i.bytes)) = some (some (.int .i64 0), 1, 8) := by kernel_rfl
theorem Try.infoE : (Try.prog.info? 26).map (fun i => (i.zero, i.size, i.bytes)) = some (some (.int .i64 0), 1, 8) := by kernel_rfl

/-- The eight runs and what each gives. -/
def runC : Array Value := #[.int .i64 4660, .int .i64 8, .int .i64 4856, .int .i64 8, .int .i64 4857, .int .i64 8, .int .i64 0, .int .i64 0, .int .i64 0, .int .i64 9, .int .i64 268435456, .int .i64 0, .int .i64 255, .int .i64 1, .int .i64 255, .int .i64 2]
def es : List Int := [0, 0, 2, 2, 2, 10, 0, 2]
theorem run_call (k : Nat) (hk : k < 8) : ∃ a s e x y : Int, es[k]? = some e ∧ runC[k * 2]? = some (.int .i64 a) ∧ runC[k * 2 + 1]? = some (.int .i64 s) ∧ 0 ≤ a ∧ a ≤ 268435456 ∧ 0 ≤ e ∧ e ≤ 10 ∧
    ∀ w, Calls Try.prog 13 #[.int .u64 a, .int .i64 s] w fun en w' => en = .returned (.tuple #[.int .i64 x, .int .i64 y, .int .i64 e]) ∧ w' = w := by
  rcases (show k = 0 ∨ k = 1 ∨ k = 2 ∨ k = 3 ∨ k = 4 ∨ k = 5 ∨ k = 6 ∨ k = 7 by omega) with rfl | rfl | rfl | rfl | rfl | rfl | rfl | rfl
  · exact ⟨4660, 8, 0, _, _, rfl, rfl, rfl, by omega, by omega, by omega, by omega, fun w => Run_ok _ _ (by omega) (by omega) (by omega) (by omega) (by omega) w⟩
  · exact ⟨4856, 8, 0, _, _, rfl, rfl, rfl, by omega, by omega, by omega, by omega, fun w => Run_ok _ _ (by omega) (by omega) (by omega) (by omega) (by omega) w⟩
  · exact ⟨4857, 8, 2, _, _, rfl, rfl, rfl, by omega, by omega, by omega, by omega, fun w => Run_no _ _ (by omega) (by omega) (by omega) w⟩
  · exact ⟨0, 0, 2, _, _, rfl, rfl, rfl, by omega, by omega, by omega, by omega, fun w => Run_no _ _ (by omega) (by omega) (by omega) w⟩
  · exact ⟨0, 9, 2, _, _, rfl, rfl, rfl, by omega, by omega, by omega, by omega, fun w => Run_no _ _ (by omega) (by omega) (by omega) w⟩
  · exact ⟨268435456, 0, 10, _, _, rfl, rfl, rfl, by omega, by omega, by omega, by omega, fun w => Run_far _ _ (by omega) (by omega) w⟩
  · exact ⟨255, 1, 0, _, _, rfl, rfl, rfl, by omega, by omega, by omega, by omega, fun w => Run_ok _ _ (by omega) (by omega) (by omega) (by omega) (by omega) w⟩
  · exact ⟨255, 2, 2, _, _, rfl, rfl, rfl, by omega, by omega, by omega, by omega, fun w => Run_no _ _ (by omega) (by omega) (by omega) w⟩
theorem one_at (wr : World) (o1 : Obj) (a : Value) (t : TypeId) : ∀ j u, [a][j]? = some u → ((wr.alloc o1).alloc (.cells #[a] t)).cell? ((⟨wr.heap.size + 1, 0, none⟩ : Addr).add j) = some u := by
  have h := cell_one_new (wr.alloc o1) a t
  have e : (wr.alloc o1).heap.size = wr.heap.size + 1 := by simp
  rw [e] at h
  exact h
theorem runC_cell (w : World) (i : Nat) (v : Value) (h : runC[i]? = some v) : (w.alloc (.cells runC 40)).cell? ⟨w.heap.size, i, none⟩ = some v := by simp [h]

set_option maxRecDepth 100000 in
set_option maxHeartbeats 4000000 in
theorem known_walk (w : World) : Calls Try.prog 4 #[] w fun e w' => e = .returned (.bool true) ∧ Below w.heap.size w w' := by
  obtain ⟨i0, hi, hz0, hz1, hz2⟩ := info_parts Try.info3
  obtain ⟨j0, hj, jz0, jz1, jz2⟩ := info_parts Try.infoE
  obtain ⟨s0, hs, sz0, sz1, sz2⟩ := info_parts Try.infoS
  go_enter Try.func4, Try.ntmps4
  go_wp2_with fail
  refine (Split_no _ (by omega) (by omega) _).mono ?_; rintro e w' ⟨rfl, rfl⟩
  go_wp2_with fail
  refine (Split_ok _ (by omega) (by omega) _).mono ?_; rintro e w' ⟨rfl, rfl⟩
  go_wp2_with fail
  refine (Join_no _ _ (by omega) _).mono ?_; rintro e w' ⟨rfl, rfl⟩
  go_wp2_with fail
  refine (Join_no _ _ (by omega) _).mono ?_; rintro e w' ⟨rfl, rfl⟩
  go_wp2_with fail
  refine (Join_no _ _ (by omega) _).mono ?_; rintro e w' ⟨rfl, rfl⟩
  go_wp2_with fail
  refine (Index_no _ _ (by omega) _).mono ?_; rintro e w' ⟨rfl, rfl⟩
  go_wp2_with fail
  refine (Table_no _ _ (by omega) _).mono ?_; rintro e w' ⟨rfl, rfl⟩
  go_wp2_with fail
  refine (Table_3 _ (by omega) (by omega) _).mono ?_; rintro e w0 ⟨rfl, rfl⟩
  go_wp2
  have hk6 := kW_size w0
  go_loopw [21, 139] (fun v i wr => ∃ k : Nat, k ≤ 6 ∧ i = .int .i64 k ∧ wr.ownsRow (kW w0).heap.size 3 1 v k ((res.take k).map (Value.int .i64)) ∧ Below (kW w0).heap.size (kW w0) wr) (fun _ i _ => 6 - (intOf i).toNat)
  case atStart => exact ⟨0, by omega, rfl, World.ownsRow_nil _ _ _ _, Below.refl _ _⟩
  case round =>
    obtain ⟨k, hk, rfl, o, hb⟩ := hrel
    have hsz := hb.size
    by_cases hlt : k < 6
    · obtain ⟨v, r, hres, hcell, hr0, hr1, hcall⟩ := kW_call w0 k hlt
      have hc := (hb.cell (p := ⟨w0.heap.size + 1 + 1 + 1 + 1 + 1, k, none⟩) (by rw [kW_size]; exact Nat.lt_succ_self _)).trans hcell
      have HC : Hid (Calls Try.prog 6 #[v] wr fun e w' => e = .returned (.tuple #[.int .i64 r, .int .i64 0]) ∧ Below wr.heap.size wr w') := hcall wr hb
      have HR : Hid _ := hres
      clear hcall hcell hres hk6
      go_wp2_with fail
      refine HC.out.mono ?_
      rintro e w1 ⟨rfl, hb1⟩
      have ho1 : w1.ownsRow (kW w0).heap.size 3 1 _ k ((res.take k).map (Value.int .i64)) := o.kept ⟨hb1.os, hb1.tape, hb1.output, hb1.size, fun j hj _ => hb1.block j hj⟩ (row := none) (by cases (Value.ownBlock _) <;> simp)
      have hb01 : Below (kW w0).heap.size (kW w0) w1 := hb.trans (hb1.mono hsz)
      have hsz1 := hb01.size
      clear hc hb1
      go_wp2_with (at_builtin; refine wpList_append_own _ rfl (.tmp 150) (.tmp 152) 36 rfl (kW w0).heap.size 3 i0 (.int .i64 0) 1 8 Try.underlying36 hi hz0 hz1 hz2 rfl (by decide) _ k _ rfl (ho1.alloc _) ⟨w1.heap.size, 0, none⟩ 1 1 [.int .i64 r] rfl rfl (cell_one_new _ _ _) (by intro u hu; simp at hu; subst hu; rfl) (by unfold maxLen; omega) (by omega) (by simp; omega) ?_; intro v2 w2 o2 gr2 nil2)
      go_roundw
      case rel =>
        refine ⟨k + 1, by omega, by go_num, ?_, (hb01.alloc hsz1 _).grown gr2 (by simp; omega) (fun k hk => (ho1.lt k hk).1)⟩
        have e : res.take (k + 1) = res.take k ++ [r] := by rw [List.take_add_one, HR.out]; rfl
        rw [e, List.map_append]
        exact o2
      case measure => simp [intOf]; omega
    · obtain rfl : k = 6 := by omega
      obtain ⟨g, c, rfl, hbg, hgl⟩ := o.form (by omega)
      have hcs : ∀ i u, (res.map (Value.int .i64))[i]? = some u → wr.cell? ⟨g, i, none⟩ = some u := by
        intro i u h
        have := o.cells (g := g) rfl i u h
        rw [Go.WideShapes.add_plain, Nat.zero_add] at this
        exact this
      have HCS : Hid _ := hcs
      clear hcs o hk6
      go_wp2_with fail
      refine (one_bad 1 1048576 ⟨by decide, by decide⟩ rfl _).mono ?_
      rintro e w1 ⟨rfl, hb1⟩
      have hsz1 := hb1.size
      go_wp2_with (at_make; refine wpList_make_full _ rfl _ _ 22 rfl wr.heap.size 24 s0 (.agg #[.int .i64 0, .int .i64 0]) 2 Try.underlying22 hs sz0 sz1 _ _ _ _ 1025 rfl rfl rfl rfl (by rw [sz2]; omega) (by unfold maxLen; omega) hsz1 ?_; intro w2 o2 gr2)
      have hb2 : Below wr.heap.size wr w2 := hb1.grown gr2 hsz1 (fun k h => by cases h)
      clear o2 gr2
      refine (Tables_many _ _ 1025 (by omega) (by simp [maxLen]) _).mono ?_
      rintro e w3 ⟨rfl, rfl⟩
      go_wp2_with fail
      refine (one_bad 9223372036854775807 9223372036854775807 ⟨by decide, by decide⟩ rfl _).mono ?_
      rintro e w4 ⟨rfl, hb4⟩
      go_wp2_with fail
      refine (one_bad 5 9223372036854775807 ⟨by decide, by decide⟩ rfl _).mono ?_
      rintro e w5 ⟨rfl, hb5⟩
      have hb05 : Below wr.heap.size wr w5 := (hb2.trans (hb4.mono hb2.size)).trans (hb5.mono (Nat.le_trans hb2.size hb4.size))
      have c0 := ((bcell hb05).1 _ _ hgl).trans (HCS.out 0 _ rfl)
      have c1 := ((bcell hb05).1 _ _ hgl).trans (HCS.out 1 _ rfl)
      have c2 := ((bcell hb05).1 _ _ hgl).trans (HCS.out 2 _ rfl)
      have c3 := ((bcell hb05).1 _ _ hgl).trans (HCS.out 3 _ rfl)
      have c4 := ((bcell hb05).1 _ _ hgl).trans (HCS.out 4 _ rfl)
      have c5 := ((bcell hb05).1 _ _ hgl).trans (HCS.out 5 _ rfl)
      have hB : Below w0.heap.size w0 w5 := by
        have h1 : Below w0.heap.size w0 (kW w0) := (((((((Below.refl _ _).alloc (Nat.le_refl _) _).alloc (by simp) _).alloc (by simp; omega) _).alloc (by simp; omega) _).alloc (by simp; omega) _).alloc (by simp; omega) _)
        have h2 : Below w0.heap.size w0 wr := h1.trans (hb.mono h1.size)
        exact h2.trans (hb05.mono h2.size)
      clear hb1 hb2 hb4 hb5 hb05 HCS hb
      go_wp2_with fail
      refine (Frame_ok _ (by omega) (by omega) _).mono ?_; rintro e w' ⟨rfl, rfl⟩
      clear c0 c1 c2 c3 c4 c5
      go_wp2_with fail
      refine (Frame_no _ (by omega) (by omega) _).mono ?_; rintro e w' ⟨rfl, rfl⟩
      go_wp2_with fail
      refine (Line_ok _ (by omega) (by omega) _).mono ?_; rintro e w6 ⟨rfl, rfl⟩
      go_wp2
      go_loopw [44, 274] (fun v i wx => ∃ k : Nat, k ≤ 8 ∧ i = .int .i64 k ∧ wx.ownsRow (w6.heap.size + 1) 26 1 v k ((es.take k).map (Value.int .i64)) ∧ Below (w6.heap.size + 1) (w6.alloc (.cells runC 40)) wx) (fun _ i _ => 8 - (intOf i).toNat)
      case atStart => exact ⟨0, by omega, rfl, World.ownsRow_nil _ _ _ _, Below.refl _ _⟩
      case round =>
        obtain ⟨k, hk, rfl, o, hb⟩ := hrel
        have hsz : w6.heap.size + 1 ≤ wr.heap.size := by have := hb.size; simpa using this
        by_cases hlt : k < 8
        · obtain ⟨a, s, e, x, y, he, ha, hs', ha0, ha1, he0, he1, hcall⟩ := run_call k hlt
          have d1 := (hb.cell (p := ⟨w6.heap.size, k * 2, none⟩) (Nat.lt_succ_self _)).trans (runC_cell w6 _ _ ha)
          have d2 := (hb.cell (p := ⟨w6.heap.size, k * 2 + 1, none⟩) (Nat.lt_succ_self _)).trans (runC_cell w6 _ _ hs')
          have HE : Hid _ := he
          have HC : Hid (∀ w, Calls Try.prog 13 #[.int .u64 a, .int .i64 s] w fun en w' => en = .returned (.tuple #[.int .i64 x, .int .i64 y, .int .i64 e]) ∧ w' = w) := hcall
          clear he ha hs' hcall
          go_wp2_with fail
          refine (HC.out _).mono ?_
          rintro en w7 ⟨rfl, hw7⟩
          subst hw7
          clear d1 d2
          go_wp2_with (at_builtin; refine wpList_append_own _ rfl (.tmp 288) (.tmp 290) 39 rfl (w6.heap.size + 1) 26 j0 (.int .i64 0) 1 8 Try.underlying39 hj jz0 jz1 jz2 rfl (by decide) _ k _ rfl ((o.alloc _).alloc _) ⟨wr.heap.size + 1, 0, none⟩ 1 1 [.int .i64 e] rfl rfl (one_at wr _ _ _) (by intro u hu; simp at hu; subst hu; rfl) (by unfold maxLen; omega) (by omega) (by simp; omega) ?_; intro v2 w2 o2 gr2 nil2)
          go_roundw
          case rel =>
            refine ⟨k + 1, by omega, by go_num, ?_, ((hb.alloc hsz _).alloc (by simp; omega) _).grown gr2 (by simp; omega) (fun k hk => (o.lt k hk).1)⟩
            have e1 : es.take (k + 1) = es.take k ++ [e] := by rw [List.take_add_one, HE.out]; rfl
            rw [e1, List.map_append]
            exact o2
          case measure => simp [intOf]; omega
        · obtain rfl : k = 8 := by omega
          obtain ⟨g2, c2, rfl, hbg2, hgl2⟩ := o.form (by omega)
          have hcs : ∀ i u, (es.map (Value.int .i64))[i]? = some u → wr.cell? ⟨g2, i, none⟩ = some u := by
            intro i u h
            have := o.cells (g := g2) rfl i u h
            rw [Go.WideShapes.add_plain, Nat.zero_add] at this
            exact this
          have d0 := hcs 0 _ rfl
          have d1 := hcs 1 _ rfl
          have d2 := hcs 2 _ rfl
          have d3 := hcs 3 _ rfl
          have d4 := hcs 4 _ rfl
          have d5 := hcs 5 _ rfl
          have d6 := hcs 6 _ rfl
          have d7 := hcs 7 _ rfl
          have HB : Hid (Below w0.heap.size w0 wr) := by
            have h1 : Below w0.heap.size w0 (w6.alloc (.cells runC 40)) := hB.alloc hB.size _
            exact h1.trans (hb.mono (by have := hB.size; omega))
          clear hcs o hb hB
          go_wp2_with (go_at_call 5; refine (works_any _).mono ?_; rintro e w8 ⟨rfl, hb8⟩)
          go_ret
          exact ⟨rfl, HB.out.trans (hb8.mono HB.out.size)⟩
end Go.Proofs.Ythmcempfiimkkab
