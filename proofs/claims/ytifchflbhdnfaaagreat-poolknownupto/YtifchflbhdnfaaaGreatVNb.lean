/- What PoolKnown's comparisons give back; no condition but those that each theorem names. -/
import Derived.Test.YtifchflbhdnfaaaGreatVNa
import Derived.Deep.CutRange
namespace Go.Proofs.YtifchflbhdnfaaaGreat.P
open Go.ChangeShapes Go.WideShapes Go.ChangeAt Go.RowKit
set_option linter.unusedVariables false
set_option maxRecDepth 8192

theorem neO (x y : Int) (W : World) : (binOp .neq 64 (.agg #[.int .i64 x, .int .u8 y]) (.agg #[.int .i64 x, .int .u8 y])).run Tryz.prog W = .ok (.bool false) W := by
  simp only [run_neq_struct]
  rw [run_equalIn_agg W 9999 64 _ _ (by kernel_rfl) Tryz.stoodInHeld64]
  simp [go_sem, Program.fieldsOf, Tryz.underlying64]
theorem eq7 (x y z t r s u : Int) (W : World) : (binOp .eql 58 (.agg #[.int .i64 x, .int .i64 y, .int .i64 z, .int .i64 t, .int .i64 r, .int .i64 s, .int .i64 u]) (.agg #[.int .i64 x, .int .i64 y, .int .i64 z, .int .i64 t, .int .i64 r, .int .i64 s, .int .i64 u])).run Tryz.prog W = .ok (.bool true) W := by
  obtain ⟨i, hi⟩ : ∃ i, Tryz.prog.info? 3 = some i := Option.isSome_iff_exists.1 (by kernel_rfl)
  have hc : Tryz.prog.cellsOf 3 = 1 := by kernel_rfl
  rw [run_eql_struct, show (10000 : Nat) = 9999 + 1 from rfl, run_equalIn_array W 9999 _ _ (Tryz.underlying58) hi, hc]
  simp [Op.eqItems, List.range, List.range.loop, go_sem, part, Tryz.underlying3]
/-- A list of a call's own held against a literal that says the same. -/
theorem eq_lit {w : World} {base g m : Nat} {v : Value} {l : List Int} (hl : l.length ≤ 100) (h : Is w base v l) (hb : B.Blk w g 3 (B.tv l)) : Calls Tryz.prog 17 #[v, .slice (some ⟨g, 0, none⟩) l.length m] w (One (.bool true) w) := by
  obtain ⟨a, c, rfl, hA⟩ := h.arg
  refine EqInts_any (by omega) hA (Or.inr ⟨g, 0, rfl, hb.lt, fun i hi => ?_⟩)
  rw [Nat.zero_add, hb.cell i, B.tv_get, List.getElem?_eq_getElem hi]
  show some (Value.int .i64 l[i]) = some (.int .i64 (l.getD i 0))
  rw [List.getD_eq_getElem?_getD, List.getElem?_eq_getElem hi]
  rfl
theorem quiet_load_n {P : Program} {W : World} {a : Act} {o : Oper} {K : Act → Prop} (t : TypeId) (x : Operand) (ho : o.op = .load t x) (u v : Value) (hx : a.eval x = u)
    (hrun : ∀ n, (Instr.loadAt t u).run P (W.drewN n) = .ok v (W.drewN n)) (hk : K (a.put o.dst v)) : o.quiet P a (fun w' => ∃ n, w' = W.drewN n) K := by
  refine ⟨v, fun w hw => ?_, hk⟩
  obtain ⟨n, rfl⟩ := hw
  unfold Oper.quietAt
  simp [execOp, ho, hx, hrun n, Result.andThen, Oper.quietUpon]
theorem ldO {w : World} {b k : Nat} {x y : Int} (h1 : w.cell? ⟨b, k, none⟩ = some (.int .i64 x)) (h2 : w.cell? ⟨b, k + 1, none⟩ = some (.int .u8 y)) : (Instr.loadAt 64 (.pointer (some ⟨b, k, none⟩))).run Tryz.prog w = .ok (.agg #[.int .i64 x, .int .u8 y]) w := by
  simp [go_sem, *]
set_option maxHeartbeats 2000000 in
/-- sameOwned of what Owned gives back and a literal that says the same. -/
theorem sameOwned_lit {w : World} {base g m : Nat} {v : Value} {us : Us} {l : List Nat} (hl : l.length ≤ 100) (h : Os w base v us l) (hb : B.Blk w g 64 (enO us l)) : Calls Tryz.prog 28 #[v, .slice (some ⟨g, 0, none⟩) l.length m] w (One (.bool true) w) := by
  obtain ⟨a, c, rfl, hA⟩ := h.cell
  have H1 : Hid (∀ n i x, l[i]? = some x → ∃ g, a = some ⟨g, 0, none⟩ ∧ (w.drewN n).cell? ⟨g, i * 2, none⟩ = some (.int .i64 (x : Nat)) ∧ (w.drewN n).cell? ⟨g, i * 2 + 1, none⟩ = some (.int .u8 ((us x).getD 0 : Nat))) := fun n i x hi => by
    obtain ⟨g, h1, h2, h3, h4⟩ := hA (w.drewN n) (below_drewN (Below.refl _ _) n) i x hi
    exact ⟨g, h1, h3, h4⟩
  have H2 : Hid (∀ n i x, l[i]? = some x → (w.drewN n).cell? ⟨g, i * 2, none⟩ = some (.int .i64 (x : Nat)) ∧ (w.drewN n).cell? ⟨g, i * 2 + 1, none⟩ = some (.int .u8 ((us x).getD 0 : Nat))) := fun n i x hi => by
    have e := enO_get us l i x hi
    have hbb := below_drewN (Below.refl w.heap.size w) n
    rw [hbb.cell (p := ⟨g, i * 2, none⟩) hb.lt, hbb.cell (p := ⟨g, i * 2 + 1, none⟩) hb.lt, hb.cell, hb.cell]
    exact e
  have HX : Hid (∀ i, i < l.length → ∃ x, l[i]? = some x) := fun i hi => ⟨_, List.getElem?_eq_getElem hi⟩
  have HN : Hid (∀ x y W, _) := neO
  clear hA hb h
  generalize l.length = len at *
  go_enter Tryz.func28, Tryz.ntmps28
  go_wp2
  go_loopw [5] (fun i wr => ∃ k : Nat, k ≤ len ∧ i = .int .i64 k ∧ ∃ m, wr = w.drewN m) (fun i _ => len - (B.iv i).toNat)
  case atStart => exact ⟨0, by omega, rfl, 0, rfl⟩
  case round =>
    obtain ⟨k, hk, rfl, m, rfl⟩ := hrel
    by_cases hlt : k < len
    · obtain ⟨x, hx⟩ := HX.out k hlt
      obtain ⟨b, rfl, c1, c2⟩ := H1.out m k x hx
      obtain ⟨d1, d2⟩ := H2.out m k x hx
      obtain ⟨y, hy⟩ : ∃ y : Int, (((us x).getD 0 : Nat) : Int) = y := ⟨_, rfl⟩
      obtain ⟨xi, hxi⟩ : ∃ y : Int, (x : Int) = y := ⟨_, rfl⟩
      rw [hy] at c2 d2
      rw [hxi] at c1 d1
      have hq := neO xi y
      clear H1 H2 HX hx hy hxi HN
      have hl1 : Hid (∀ n, _) := fun n => ldO (w := (w.drewN m).drewN n) c1 c2
      have hl2 : Hid (∀ n, _) := fun n => ldO (w := (w.drewN m).drewN n) d1 d2
      clear c1 c2 d1 d2
      go_wp2
      refine wp_region_quiet_lit (by kernel_rfl) (by kernel_rfl) ?_
      repeat (first | (go_big_quiet_want; refine quiet_load_n 64 (.tmp 19) rfl _ _ rfl hl1.out ?_; simp only [Act.put, List.setIfInBounds_toArray, List.set_cons_zero, List.set_cons_succ]; go_big_quiet_on) | (go_big_quiet_want; refine quiet_load_n 64 (.tmp 23) rfl _ _ rfl hl2.out ?_; simp only [Act.put, List.setIfInBounds_toArray, List.set_cons_zero, List.set_cons_succ]; go_big_quiet_on) | go_big_quiet_step (fail))
      refine wpQuiet_nil ?_
      intro _ hw'
      obtain ⟨nq, hw''⟩ := hw'
      subst hw''
      go_wp2
      go_roundw
      case rel => exact ⟨k + 1, by omega, by go_num, m + nq, by first | rfl | simp [World.drewN_drewN]⟩
      case measure => simp [B.iv]; omega
    · obtain rfl : k = len := by omega
      go_wp2
      go_ret
      exact ⟨rfl, below_drewN (Below.refl _ _) m⟩
/-- A pool that is but its box is none. -/
theorem nop_box {w : World} {p : Nat} {C : List Value} {t : TypeId} (h : B.Blk w p t C) (hc : C[26]? = some (.map none)) : NoP w (some ⟨p, 0, none⟩) := Or.inr ⟨p, rfl, by rw [h.cell]; exact hc⟩
end Go.Proofs.YtifchflbhdnfaaaGreat.P
