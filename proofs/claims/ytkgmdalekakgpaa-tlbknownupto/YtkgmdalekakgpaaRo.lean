/- copy and clear of rows of translations; what lead of package tlb writes. -/
import Derived.Test.YtkgmdalekakgpaaPr
import Derived.Deep.RegionHeldLaw
namespace Go.Proofs.Ytkgmdalekakgpaa
open Go.ChangeShapes Go.WideShapes Go.ChangeAt Go.RowKit
set_option linter.unusedVariables false
set_option linter.unusedSimpArgs false

theorem Try.infoT : (Try.prog.info? 32).map (fun i => (i.zero, i.size, i.bytes)) = some (some (.agg #[.int .i64 0, .int .i64 0, .int .i64 0, .bool false, .bool false, .bool false]), 6, 32) := by kernel_rfl
theorem Try.size32 : (Try.prog.info? 32).map (·.size) = some 6 := by kernel_rfl
theorem run_copy6 (w : World) (ty : TypeId) (b o dLen dCap : Nat) (a : Addr) (sLen sCap m : Nat) (cs : List Value)
    (hm : Nat.min sLen dLen = m) (hn : cs.length = m * 6)
    (hsrc : ∀ j v, cs[j]? = some v → w.cell? (a.add j) = some v) (hc : ∀ j, j < cs.length → (w.cell? ⟨b, o + j, none⟩).isSome = true) (hf : ∀ j, j < cs.length → w.frozen? ⟨b, o + j, none⟩ = false) (h1 : ∀ v ∈ cs, v.oneCell' = true) :
    (Builtin.copy_ #[35, 35] ty #[.slice (some ⟨b, o, none⟩) dLen dCap, .slice (some a) sLen sCap]).run Try.prog w = .ok (goInt m) (w.setCells b o cs) := by
  have hl := run_loadCells_list (P := Try.prog) w a cs hsrc
  have hst := run_storeCells_cells (P := Try.prog) b o cs 0 w (by simpa using hc) (by simpa using hf) h1
  have hs := Try.size32
  cases hq : Try.prog.info? 32 with
  | none => simp [hq] at hs
  | some i =>
    have hi : i.size = 6 := by simpa [hq] using hs
    rw [hn] at hl
    simp [Builtin.copy_, run_underlying Try.underlying35, Builtin.lenOf, Builtin.firstCells, sizeOf, typeInfo, hq, hi, hm, hl, hst]
theorem run_copy6_none (w : World) (ty : TypeId) (d a : Option Addr) (dLen dCap sLen sCap : Nat) (hn : Nat.min sLen dLen = 0) :
    (Builtin.copy_ #[35, 35] ty #[.slice d dLen dCap, .slice a sLen sCap]).run Try.prog w = .ok (goInt 0) w := by
  have hs := Try.size32
  cases hq : Try.prog.info? 32 with
  | none => simp [hq] at hs
  | some i =>
    have hi : i.size = 6 := by simpa [hq] using hs
    cases d with
    | none => cases a <;> simp [Builtin.copy_, run_underlying Try.underlying35, Builtin.lenOf, Builtin.firstCells, sizeOf, typeInfo, hq, hi, hn, loadCells, loadCellsFrom, storeCells]
    | some d => cases a <;> simp [Builtin.copy_, run_underlying Try.underlying35, Builtin.lenOf, Builtin.firstCells, sizeOf, typeInfo, hq, hi, hn, loadCells, loadCellsFrom, storeCells]
theorem zc_len (n : Nat) : (Builtin.zeroCells #[Value.int .i64 0, .int .i64 0, .int .i64 0, .bool false, .bool false, .bool false] n).toList.length = n * 6 := by
  simp [Builtin.zeroCells]
theorem zc_one (n : Nat) : ∀ v ∈ (Builtin.zeroCells #[Value.int .i64 0, .int .i64 0, .int .i64 0, .bool false, .bool false, .bool false] n).toList, v.oneCell' = true := by
  intro v hv
  simp only [Builtin.zeroCells, Array.toList_map, List.mem_map] at hv
  obtain ⟨i, _, rfl⟩ := hv
  have h6 : i % 6 < 6 := Nat.mod_lt _ (by omega)
  show (#[Value.int .i64 0, .int .i64 0, .int .i64 0, .bool false, .bool false, .bool false][i % 6]!).oneCell' = true
  generalize i % 6 = j at *
  have : j = 0 ∨ j = 1 ∨ j = 2 ∨ j = 3 ∨ j = 4 ∨ j = 5 := by omega
  rcases this with rfl | rfl | rfl | rfl | rfl | rfl <;> rfl
theorem run_clear6 (w : World) (ty : TypeId) (b o n c : Nat) (hn : 0 < n)
    (hc : ∀ j, j < n * 6 → (w.cell? ⟨b, o + j, none⟩).isSome = true) (hf : ∀ j, j < n * 6 → w.frozen? ⟨b, o + j, none⟩ = false) :
    ∃ Z : List Value, Z.length = n * 6 ∧ (Builtin.clear_ #[35] ty #[.slice (some ⟨b, o, none⟩) n c]).run Try.prog w = .ok (.tuple #[]) (w.setCells b o Z) := by
  refine ⟨(Builtin.zeroCells #[Value.int .i64 0, .int .i64 0, .int .i64 0, .bool false, .bool false, .bool false] n).toList, zc_len n, ?_⟩
  have hst := run_storeCells_cells (P := Try.prog) b o (Builtin.zeroCells #[Value.int .i64 0, .int .i64 0, .int .i64 0, .bool false, .bool false, .bool false] n).toList 0 w (by rw [zc_len]; simpa using hc) (by rw [zc_len]; simpa using hf) (zc_one n)
  simp only [Nat.add_zero] at hst
  obtain ⟨m, rfl⟩ : ∃ m, n = m + 1 := ⟨n - 1, by omega⟩
  have hv : ∀ w, (zeroValue 32).run Try.prog w = .ok (.agg #[.int .i64 0, .int .i64 0, .int .i64 0, .bool false, .bool false, .bool false]) w := Try.zeroValue32
  simp [Builtin.clear_, run_underlying Try.underlying35, hv, Value.cells, hst]
/-! ### A builtin inside a region that draws its order -/
theorem wp_copy_run {w : World} {o : Oper} {a : Act} {K : Act → World → Prop} {Q : Exit → Act → World → Prop} (s x : Operand)
    (ho : o.op = .call { callee := .builtin .copy, args := #[s, x], argTypes := #[35, 35] }) (vs vx n : Value) (w' : World) (hs : a.eval s = vs) (hx : a.eval x = vx)
    (hr : (Builtin.copy_ #[35, 35] o.type #[vs, vx]).run Try.prog w = .ok n w') (h : K (a.put o.dst n) w') : o.wp Try.prog a w K Q := by
  unfold Oper.wp execOp
  simp only [ho, resolve, invoke, builtin, Sem.run_bind, Sem.run_pure, Result.andThen_ok, List.map_toArray, List.map_cons, List.map_nil, hs, hx, hr]
  exact h
theorem step_copy_run {w : World} {ops : Array Oper} {o : Oper} {a : Act} {K : Act → World → Prop} {Q : Exit → Act → World → Prop} {E : Prop} (hgd : o.guard = none) (s x : Operand)
    (ho : o.op = .call { callee := .builtin .copy, args := #[s, x], argTypes := #[35, 35] }) (vs vx n : Value) (w' : World) (hs : a.eval s = vs) (hx : a.eval x = vx)
    (hr : (Builtin.copy_ #[35, 35] o.type #[vs, vx]).run Try.prog w = .ok n w') (h : K (a.put o.dst n) w') :
    if Region.wanted o (yielded ops a.tmps) = true then Oper.wp Try.prog o a w K Q else E := by
  have hw : Region.wanted o (yielded ops a.tmps) = true := by simp [Region.wanted, hgd]
  rw [if_pos hw]
  exact wp_copy_run s x ho vs vx n w' hs hx hr h
theorem wp_clear_run {w : World} {o : Oper} {a : Act} {K : Act → World → Prop} {Q : Exit → Act → World → Prop} (s : Operand)
    (ho : o.op = .call { callee := .builtin .clear, args := #[s], argTypes := #[35] }) (vs n : Value) (w' : World) (hs : a.eval s = vs)
    (hr : (Builtin.clear_ #[35] o.type #[vs]).run Try.prog w = .ok n w') (h : K (a.put o.dst n) w') : o.wp Try.prog a w K Q := by
  unfold Oper.wp execOp
  simp only [ho, resolve, invoke, builtin, Sem.run_bind, Sem.run_pure, Result.andThen_ok, List.map_toArray, List.map_cons, List.map_nil, hs, hr]
  exact h
theorem step_clear_run {w : World} {ops : Array Oper} {o : Oper} {a : Act} {K : Act → World → Prop} {Q : Exit → Act → World → Prop} {E : Prop} (hgd : o.guard = none) (s : Operand)
    (ho : o.op = .call { callee := .builtin .clear, args := #[s], argTypes := #[35] }) (vs n : Value) (w' : World) (hs : a.eval s = vs)
    (hr : (Builtin.clear_ #[35] o.type #[vs]).run Try.prog w = .ok n w') (h : K (a.put o.dst n) w') :
    if Region.wanted o (yielded ops a.tmps) = true then Oper.wp Try.prog o a w K Q else E := by
  have hw : Region.wanted o (yielded ops a.tmps) = true := by simp [Region.wanted, hgd]
  rw [if_pos hw]
  exact wp_clear_run s ho vs n w' hs hr h
theorem drew_grown (w : World) (row : Option Nat) : w.grownBy w.drew row := ⟨rfl, rfl, rfl, Nat.le_refl _, fun _ _ _ => rfl⟩
theorem Blk.drew {w : World} {g : Nat} {ty : TypeId} {L : List Value} (h : Blk w g ty L) : Blk w.drew g ty L := h
theorem six_cells {L : List Value} (h : 6 ≤ L.length) : ∃ o0 o1 o2 o3 o4 o5 R, L = o0 :: o1 :: o2 :: o3 :: o4 :: o5 :: R := by
  match L, h with
  | o0 :: o1 :: o2 :: o3 :: o4 :: o5 :: R, _ => exact ⟨o0, o1, o2, o3, o4, o5, R, rfl⟩
/-- The first element stored anew. -/
theorem Blk.first {w : World} {g : Nat} {L : List Value} (h : Blk w g 32 L) (h6 : 6 ≤ L.length) (x : Tr) :
    Blk ((((((w.setCell ⟨g, 0, none⟩ (.int .i64 x.a)).setCell ⟨g, 1, none⟩ (.int .i64 x.p)).setCell ⟨g, 2, none⟩ (.int .i64 x.f)).setCell ⟨g, 3, none⟩ (.bool x.r)).setCell ⟨g, 4, none⟩ (.bool x.w)).setCell ⟨g, 5, none⟩ (.bool x.d)) g 32 (tc x ++ L.drop 6) := by
  obtain ⟨o0, o1, o2, o3, o4, o5, R, rfl⟩ := six_cells h6
  exact (((((h.set 0 _).set 1 _).set 2 _).set 3 _).set 4 _).set 5 _
theorem grown6 (w : World) (g j0 j1 j2 j3 j4 j5 : Nat) (v0 v1 v2 v3 v4 v5 : Value) : w.grownBy ((((((w.setCell ⟨g, j0, none⟩ v0).setCell ⟨g, j1, none⟩ v1).setCell ⟨g, j2, none⟩ v2).setCell ⟨g, j3, none⟩ v3).setCell ⟨g, j4, none⟩ v4).setCell ⟨g, j5, none⟩ v5) (some g) :=
  (((((grown_setCell' _ _ _ _).trans (grown_setCell' _ _ _ _)).trans (grown_setCell' _ _ _ _)).trans (grown_setCell' _ _ _ _)).trans (grown_setCell' _ _ _ _)).trans (grown_setCell' _ _ _ _)
set_option maxHeartbeats 1000000 in
theorem lead_big {w : World} {p g m cap : Nat} {L : List Value} (hB : Blk w g 32 L) (hp : p < w.heap.size) (hc : w.cell? ⟨p, 1, none⟩ = some (.slice (some ⟨g, 0, none⟩) m cap)) (hpg : p ≠ g) (k : Nat) (hk : k < m) (hm : m ≤ 64) (hmc : m ≤ cap) (hc1 : cap ≠ 1) (hcm : cap ≤ maxLen) (hL : L.length = cap * 6) (hone : ∀ v ∈ L.take (m * 6), v.oneCell' = true) (x : Tr) :
    Calls Try.prog 39 #[.pointer (some ⟨p, 0, none⟩), .int .i64 k, .agg #[.int .i64 x.a, .int .i64 x.p, .int .i64 x.f, .bool x.r, .bool x.w, .bool x.d]] w fun e w' => e = .returned (.tuple #[]) ∧ w.grownBy w' (some g) ∧ Blk w' g 32 (tc x ++ (L.take (k * 6) ++ L.drop ((k + 1) * 6))) := by
  unfold maxLen at hcm
  have X1 : Hid (Six (w.alloc (.cells #[.int .i64 x.a, .int .i64 x.p, .int .i64 x.f, .bool x.r, .bool x.w, .bool x.d] 32)) w.heap.size 0 x) := six_new w x 32
  have hb1 : w.heap.size < (w.alloc (.cells #[.int .i64 x.a, .int .i64 x.p, .int .i64 x.f, .bool x.r, .bool x.w, .bool x.d] 32)).heap.size := by simp
  have G1 : Hid (w.grownBy (w.alloc (.cells #[.int .i64 x.a, .int .i64 x.p, .int .i64 x.f, .bool x.r, .bool x.w, .bool x.d] 32)) (some g)) := World.grownBy_alloc _ _ _
  have BK : Hid (Blk (w.alloc (.cells #[.int .i64 x.a, .int .i64 x.p, .int .i64 x.f, .bool x.r, .bool x.w, .bool x.d] 32)) g 32 L) := hB.below (below_new _ _)
  have hglt := hB.lt
  have C1 : Hid ((w.alloc (.cells #[.int .i64 x.a, .int .i64 x.p, .int .i64 x.f, .bool x.r, .bool x.w, .bool x.d] 32)).cell? ⟨p, 1, none⟩ = some (.slice (some ⟨g, 0, none⟩) m cap)) := ((below_new w _).cell (p := ⟨p, 1, none⟩) hp).trans hc
  clear hc hB
  go_enter Try.func39, Try.ntmps39
  go_wp2_with fail
  generalize w.alloc (.cells #[.int .i64 x.a, .int .i64 x.p, .int .i64 x.f, .bool x.r, .bool x.w, .bool x.d] 32) = w1 at *
  generalize hbx : w.heap.size = bx at *
  have hlen : (L.take (k * 6)).length = k * 6 := by simp; omega
  have HCP : Hid (∀ ty, (Builtin.copy_ #[35, 35] ty #[.slice (some ⟨g, 6, none⟩) k (cap - 1), .slice (some ⟨g, 0, none⟩) m cap]).run Try.prog w1.drew = .ok (goInt k) (w1.drew.setCells g 6 (L.take (k * 6)))) := fun ty => by
    refine run_copy6 w1.drew ty g 6 k (cap - 1) ⟨g, 0, none⟩ m cap k (L.take (k * 6)) (Nat.min_eq_right (by omega)) hlen ?_ ?_ ?_ ?_
    · intro i v hv
      rw [Go.WideShapes.add_plain, Nat.zero_add, BK.out.drew.cell i, ← hv, List.getElem?_take_of_lt]
      have := (List.getElem?_eq_some_iff.1 hv).1
      omega
    · intro i hi
      rw [BK.out.drew.cell (6 + i), List.getElem?_eq_getElem (by omega)]
      rfl
    · intro i hi
      exact BK.out.drew.frozen _
    · intro v hv
      refine hone v ?_
      have : L.take (k * 6) = (L.take (m * 6)).take (k * 6) := by rw [List.take_take, Nat.min_eq_left (by omega)]
      rw [this] at hv
      exact List.mem_of_mem_take hv
  have B2 : Hid (Blk (w1.drew.setCells g 6 (L.take (k * 6))) g 32 (L.take 6 ++ L.take (k * 6) ++ L.drop (6 + k * 6))) := by
    have := Blk.sets (L.take (k * 6)) 6 w1.drew L BK.out.drew (by rw [hlen]; omega)
    rw [hlen] at this
    exact this
  have G2 : Hid (w1.grownBy (w1.drew.setCells g 6 (L.take (k * 6))) (some g)) := (drew_grown _ _).trans (grown_setCells _ _ _ _)
  have C2 : Hid ((w1.drew.setCells g 6 (L.take (k * 6))).cell? ⟨p, 1, none⟩ = some (.slice (some ⟨g, 0, none⟩) m cap)) := (G2.out.cell_far ⟨p, 1, none⟩ (by show p < w1.heap.size; omega) (some_ne hpg)).trans C1.out
  generalize w1.drew.setCells g 6 (L.take (k * 6)) = wz at *
  have C1d : Hid (w1.drew.cell? ⟨p, 1, none⟩ = some (.slice (some ⟨g, 0, none⟩) m cap)) := C1.out
  have i1 : IntKind.i64.wrap ((k : Int) + 1) = (k : Int) + 1 := IntWalk.i64_in _ (by omega)
  have i2 : (0 : Int) ≤ k := by omega
  have i3 : (k : Int) + 1 ≤ cap := by omega
  have i4 : (1 : Int) ≤ (k : Int) + 1 := by omega
  have i5 : ((k : Int) + 1 - 1).toNat = k := by omega
  have i6 : ((cap : Int) - 1).toNat = cap - 1 := by omega
  go_region_held_law (fun W => W.cell? ⟨p, 1, none⟩ = some (.slice (some ⟨g, 0, none⟩) m cap))
    (first | exact C2.out | exact C1d.out)
    (first | (refine step_copy_run rfl (.tmp 12) (.tmp 16) rfl _ _ _ _ rfl rfl (HCP.out _) ?_))
  clear HCP C1d C1 i1 i2 i3 i4 i5 i6 hone
  have X2 : Hid (Six wz bx 0 x) := X1.out.of_eq (G2.out.block bx (by omega) (some_ne (by omega)))
  have G3 : Hid (w.grownBy wz (some g)) := G1.out.trans G2.out
  have h6 : 6 ≤ (L.take 6 ++ L.take (k * 6) ++ L.drop (6 + k * 6)).length := by simp; omega
  have HE : Hid ((L.take 6 ++ L.take (k * 6) ++ L.drop (6 + k * 6)).drop 6 = L.take (k * 6) ++ L.drop ((k + 1) * 6)) := by
    unfold Hid
    have e6 : (L.take 6).length = 6 := by simp; omega
    rw [List.append_assoc, show 6 + k * 6 = (k + 1) * 6 by omega]
    conv => lhs; arg 1; rw [← e6]
    rw [List.drop_left]
  generalize L.take 6 ++ L.take (k * 6) ++ L.drop (6 + k * 6) = M at *
  obtain ⟨o0, o1, o2, o3, o4, o5, R, hM⟩ := six_cells h6
  have K0 : Hid (wz.cell? ⟨p, 1, none⟩ = some (.slice (some ⟨g, 0, none⟩) m cap) ∧ (wz.cell? ⟨g, 0, none⟩ = some o0 ∧ wz.cell? ⟨g, 1, none⟩ = some o1 ∧ wz.cell? ⟨g, 2, none⟩ = some o2 ∧ wz.cell? ⟨g, 3, none⟩ = some o3 ∧ wz.cell? ⟨g, 4, none⟩ = some o4 ∧ wz.cell? ⟨g, 5, none⟩ = some o5) ∧ (wz.frozen? ⟨g, 0, none⟩ = false ∧ wz.frozen? ⟨g, 1, none⟩ = false ∧ wz.frozen? ⟨g, 2, none⟩ = false ∧ wz.frozen? ⟨g, 3, none⟩ = false ∧ wz.frozen? ⟨g, 4, none⟩ = false ∧ wz.frozen? ⟨g, 5, none⟩ = false) ∧ Sx wz bx x) := by
    have hb := B2.out
    refine ⟨C2.out, ?_, ⟨hb.frozen 0, hb.frozen 1, hb.frozen 2, hb.frozen 3, hb.frozen 4, hb.frozen 5⟩, X2.out.sx⟩
    rw [hM] at hb
    exact ⟨hb.cell 0, hb.cell 1, hb.cell 2, hb.cell 3, hb.cell 4, hb.cell 5⟩
  have HF : Hid (Blk _ g 32 (tc x ++ M.drop 6)) := B2.out.first h6 x
  rw [HE.out] at HF
  clear hM HE C2 B2
  have j1 : 0 < m := by omega
  have j2 : (0 : Int) < (m : Int) := by omega
  have j3 : ¬ m = 0 := by omega
  go_wp2_with fail
  obtain ⟨q1, ⟨a0, a1, a2, a3, a4, a5⟩, ⟨f0, f1, f2, f3, f4, f5⟩, x0, x1, x2, x3, x4, x5⟩ := K0.out
  go_region
  all_goals (
    clear q1 a0 a1 a2 a3 a4 a5 f0 f1 f2 f3 f4 f5 x0 x1 x2 x3 x4 x5
    go_end0
    exact ⟨rfl, (G3.out.trans (grown6 _ _ _ _ _ _ _ _ _ _ _ _ _ _)).trans (drew_grown _ _), HF.out.drew⟩)
set_option maxHeartbeats 1000000 in
theorem lead_one {w : World} {p g : Nat} {L : List Value} (hB : Blk w g 32 L) (hp : p < w.heap.size) (hc : w.cell? ⟨p, 1, none⟩ = some (.slice (some ⟨g, 0, none⟩) 1 1)) (hpg : p ≠ g) (hL : L.length = 6) (x : Tr) :
    Calls Try.prog 39 #[.pointer (some ⟨p, 0, none⟩), .int .i64 0, .agg #[.int .i64 x.a, .int .i64 x.p, .int .i64 x.f, .bool x.r, .bool x.w, .bool x.d]] w fun e w' => e = .returned (.tuple #[]) ∧ w.grownBy w' (some g) ∧ Blk w' g 32 (tc x ++ (L.take (0 * 6) ++ L.drop ((0 + 1) * 6))) := by
  have X1 : Hid (Six (w.alloc (.cells #[.int .i64 x.a, .int .i64 x.p, .int .i64 x.f, .bool x.r, .bool x.w, .bool x.d] 32)) w.heap.size 0 x) := six_new w x 32
  have hb1 : w.heap.size < (w.alloc (.cells #[.int .i64 x.a, .int .i64 x.p, .int .i64 x.f, .bool x.r, .bool x.w, .bool x.d] 32)).heap.size := by simp
  have G1 : Hid (w.grownBy (w.alloc (.cells #[.int .i64 x.a, .int .i64 x.p, .int .i64 x.f, .bool x.r, .bool x.w, .bool x.d] 32)) (some g)) := World.grownBy_alloc _ _ _
  have BK : Hid (Blk (w.alloc (.cells #[.int .i64 x.a, .int .i64 x.p, .int .i64 x.f, .bool x.r, .bool x.w, .bool x.d] 32)) g 32 L) := hB.below (below_new _ _)
  have hglt := hB.lt
  have C1 : Hid ((w.alloc (.cells #[.int .i64 x.a, .int .i64 x.p, .int .i64 x.f, .bool x.r, .bool x.w, .bool x.d] 32)).cell? ⟨p, 1, none⟩ = some (.slice (some ⟨g, 0, none⟩) 1 1)) := ((below_new w _).cell (p := ⟨p, 1, none⟩) hp).trans hc
  clear hc hB
  go_enter Try.func39, Try.ntmps39
  go_wp2_with fail
  generalize w.alloc (.cells #[.int .i64 x.a, .int .i64 x.p, .int .i64 x.f, .bool x.r, .bool x.w, .bool x.d] 32) = w1 at *
  generalize hbx : w.heap.size = bx at *
  have HCP : Hid (∀ ty, (Builtin.copy_ #[35, 35] ty #[.slice (some ⟨g, 0, none⟩) 0 0, .slice (some ⟨g, 0, none⟩) 1 1]).run Try.prog w1.drew = .ok (goInt 0) w1.drew) := fun ty => run_copy6_none _ _ _ _ _ _ _ _ rfl
  have C1d : Hid (w1.drew.cell? ⟨p, 1, none⟩ = some (.slice (some ⟨g, 0, none⟩) 1 1)) := C1.out
  go_region_held_law (fun W => W.cell? ⟨p, 1, none⟩ = some (.slice (some ⟨g, 0, none⟩) 1 1))
    (first | exact C1d.out | fail)
    (first | (refine step_copy_run rfl (.tmp 12) (.tmp 16) rfl _ _ _ _ rfl rfl (HCP.out _) ?_))
  clear HCP C1d
  have X2 : Hid (Six w1.drew bx 0 x) := X1.out.of_eq rfl
  have G3 : Hid (w.grownBy w1.drew (some g)) := G1.out.trans (drew_grown _ _)
  have B2 : Hid (Blk w1.drew g 32 L) := BK.out
  have C2 : Hid (w1.drew.cell? ⟨p, 1, none⟩ = some (.slice (some ⟨g, 0, none⟩) 1 1)) := C1.out
  clear C1
  generalize w1.drew = wz at *
  have h6 : 6 ≤ L.length := by omega
  obtain ⟨o0, o1, o2, o3, o4, o5, R, hM⟩ := six_cells h6
  have K0 : Hid (wz.cell? ⟨p, 1, none⟩ = some (.slice (some ⟨g, 0, none⟩) 1 1) ∧ (wz.cell? ⟨g, 0, none⟩ = some o0 ∧ wz.cell? ⟨g, 1, none⟩ = some o1 ∧ wz.cell? ⟨g, 2, none⟩ = some o2 ∧ wz.cell? ⟨g, 3, none⟩ = some o3 ∧ wz.cell? ⟨g, 4, none⟩ = some o4 ∧ wz.cell? ⟨g, 5, none⟩ = some o5) ∧ (wz.frozen? ⟨g, 0, none⟩ = false ∧ wz.frozen? ⟨g, 1, none⟩ = false ∧ wz.frozen? ⟨g, 2, none⟩ = false ∧ wz.frozen? ⟨g, 3, none⟩ = false ∧ wz.frozen? ⟨g, 4, none⟩ = false ∧ wz.frozen? ⟨g, 5, none⟩ = false) ∧ Sx wz bx x) := by
    have hb := B2.out
    refine ⟨C2.out, ?_, ⟨hb.frozen 0, hb.frozen 1, hb.frozen 2, hb.frozen 3, hb.frozen 4, hb.frozen 5⟩, X2.out.sx⟩
    rw [hM] at hb
    exact ⟨hb.cell 0, hb.cell 1, hb.cell 2, hb.cell 3, hb.cell 4, hb.cell 5⟩
  have HF : Hid (Blk _ g 32 (tc x ++ L.drop 6)) := B2.out.first h6 x
  clear hM C2 B2
  go_wp2_with fail
  obtain ⟨q1, ⟨a0, a1, a2, a3, a4, a5⟩, ⟨f0, f1, f2, f3, f4, f5⟩, x0, x1, x2, x3, x4, x5⟩ := K0.out
  go_region
  all_goals (
    clear q1 a0 a1 a2 a3 a4 a5 f0 f1 f2 f3 f4 f5 x0 x1 x2 x3 x4 x5
    go_end0
    exact ⟨rfl, (G3.out.trans (grown6 _ _ _ _ _ _ _ _ _ _ _ _ _ _)).trans (drew_grown _ _), by simpa using HF.out.drew⟩)
theorem lead_ok {w : World} {p g m cap : Nat} {L : List Value} (hB : Blk w g 32 L) (hp : p < w.heap.size) (hc : w.cell? ⟨p, 1, none⟩ = some (.slice (some ⟨g, 0, none⟩) m cap)) (hpg : p ≠ g) (k : Nat) (hk : k < m) (hm : m ≤ 64) (hmc : m ≤ cap) (hcm : cap ≤ maxLen) (hL : L.length = cap * 6) (hone : ∀ v ∈ L.take (m * 6), v.oneCell' = true) (x : Tr) :
    Calls Try.prog 39 #[.pointer (some ⟨p, 0, none⟩), .int .i64 k, .agg #[.int .i64 x.a, .int .i64 x.p, .int .i64 x.f, .bool x.r, .bool x.w, .bool x.d]] w fun e w' => e = .returned (.tuple #[]) ∧ w.grownBy w' (some g) ∧ Blk w' g 32 (tc x ++ (L.take (k * 6) ++ L.drop ((k + 1) * 6))) := by
  by_cases e : cap = 1
  · subst e
    obtain rfl : m = 1 := by omega
    obtain rfl : k = 0 := by omega
    exact lead_one hB hp hc hpg (by omega) x
  · exact lead_big hB hp hc hpg k hk hm hmc e hcm hL hone x
end Go.Proofs.Ytkgmdalekakgpaa
