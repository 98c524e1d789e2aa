/- What Page and Put of package frames give back and write where the frame is there. -/
import Derived.Test.YtbfagelmijimeaaPag
namespace Go.Proofs.Ytbfagelmijimeaa
open Go.ChangeShapes Go.WideShapes Go.ChangeAt Go.RowKit
set_option linter.unusedVariables false

theorem Try.infoP : (Try.prog.info? 64).map (fun i => (i.zero, i.size)) = some (some (.agg (Array.replicate 256 (.int .u8 0))), 256) := by kernel_rfl
theorem run_loadAt_at {P : Program} (w : World) (t : TypeId) (a : Addr) (cs : List Value) (n : Nat) (e : TypeId) (hu : P.underlying t = some (.array n e)) (hi : (P.info? t).map (·.size) = some cs.length)
    (h : ∀ j v, cs[j]? = some v → w.cell? (a.add j) = some v) : (Instr.loadAt t (.pointer (some a))).run P w = .ok (.agg cs.toArray) w := by
  have hl := run_loadCells_list (P := P) w a cs h
  cases hq : P.info? t with
  | none => simp [hq] at hi
  | some i =>
    have hs : i.size = cs.length := by simpa [hq] using hi
    have hagg : (isAgg t).run P w = .ok true w := by simp [isAgg, run_underlying hu]
    simp [Instr.loadAt, Instr.sureAddr, loadVar, hagg, sizeOf, typeInfo, hq, hs, hl]
theorem wpList_load_at {P : Program} {w : World} {ops : Array Oper} {rest : List Oper} {o : Oper} {a : Act} {Q : Exit → Act → World → Prop} (hgd : o.guard = none) (t : TypeId) (x : Operand)
    (ho : o.op = .load t x) (u v : Value) (hx : a.eval x = u) (hrun : (Instr.loadAt t u).run P w = .ok v w) (h : wpList P ops Q rest (a.put o.dst v) w) : wpList P ops Q (o :: rest) a w := by
  refine wpList_plain hgd fun K hK => ?_
  unfold Oper.wp
  simp [execOp, ho, hx, hrun, Result.andThen]
  exact hK _ _ h
theorem wpList_store_at {P : Program} {w w' : World} {ops : Array Oper} {rest : List Oper} {o : Oper} {a : Act} {Q : Exit → Act → World → Prop} (hgd : o.guard = none) (t : TypeId) (x y : Operand)
    (ho : o.op = .store t x y) (u v : Value) (hx : a.eval x = u) (hy : a.eval y = v) (hrun : (Instr.storeAt t u v).run P w = .ok () w') (h : wpList P ops Q rest (a.put o.dst undef) w') : wpList P ops Q (o :: rest) a w := by
  refine wpList_plain hgd fun K hK => ?_
  unfold Oper.wp
  simp [execOp, ho, hx, hy, hrun, Result.andThen]
  exact hK _ _ h
theorem wpList_arrayAt {P : Program} {w : World} {ops : Array Oper} {rest : List Oper} {o : Oper} {a : Act} {Q : Exit → Act → World → Prop} (hgd : o.guard = none) (t : TypeId) (x : Operand)
    (ho : o.op = .sliceToArrayPointer t x) (u v : Value) (hx : a.eval x = u) (hrun : (Instr.arrayAt t u).run P w = .ok v w) (h : wpList P ops Q rest (a.put o.dst v) w) : wpList P ops Q (o :: rest) a w := by
  refine wpList_plain hgd fun K hK => ?_
  unfold Oper.wp
  simp [execOp, ho, hx, hrun, Result.andThen]
  exact hK _ _ h
theorem run_arrayAt_at {P : Program} (w : World) (t : TypeId) (ao : Option Addr) (n c : Nat) (e : TypeId) (hu : P.underlying t = some (.array n e)) : (Instr.arrayAt t (.slice ao n c)).run P w = .ok (.pointer ao) w := by
  simp [Instr.arrayAt, run_underlying hu]
theorem new_By {w : World} {m : Nat} {h : Nat → Int} {t : TypeId} : By (w.alloc (.cells (vals m h).toArray t)) w.heap.size m h := by
  refine ⟨by simp, fun i hi => ⟨?_, ?_⟩⟩
  · rw [cell_of_row _ _ i _ t (0, 0) (heap_alloc_last w _)]
    simpa using vals_get m h i hi
  · simp only [World.frozen?, heap_alloc_last]
    simp
theorem all_vals (m : Nat) (h : Nat → Int) : (vals m h).toArray.all (·.oneCell') = true := by
  rw [Array.all_eq_true_iff_forall_mem]
  intro v hv
  exact vals_one m h v (by simpa using hv)
set_option maxRecDepth 100000 in
set_option maxHeartbeats 1000000 in
theorem Page_ok {w : World} {p g n : Nat} {f : Nat → Int} (hM : Mem w p g n f) (hn : n ≤ 4096) (k : Nat) (hk : k < n) :
    Calls Try.prog 20 #[.pointer (some ⟨p, 0, none⟩), .int .i64 k] w fun e w' => ∃ b, e = .returned (.tuple #[.slice (some ⟨b, 0, none⟩) 256 256, .int .i64 0]) ∧ By w' b 256 (fun i => f (k * 256 + i)) ∧ w.grownBy w' none ∧ w.heap.size ≤ b := by
  have hld : (Instr.loadAt 64 (.pointer (some ⟨g, k * 256, none⟩))).run Try.prog w = .ok (.agg (vals 256 (fun i => f (k * 256 + i))).toArray) w :=
    run_loadAt_at w 64 ⟨g, k * 256, none⟩ _ 256 5 Try.underlying64 (by rw [vals_len]; exact (zero_of_info Try.infoP).2) (fun i v hv => by
        have hi : i < 256 := by have := (List.getElem?_eq_some_iff.1 hv).1; rwa [vals_len] at this
        rw [vals_get _ _ _ hi] at hv
        rw [Go.WideShapes.add_plain, ← hv]
        exact (hM.by'.2 _ (by omega)).1)
  have har := run_arrayAt_at w 64 (some ⟨g, k * 256, none⟩) 256 256 5 Try.underlying64
  have HM : Hid (Mem w p g n f) := hM
  clear hM
  have hsz : (vals 256 (fun i => f (k * 256 + i))).toArray.size = 256 := by rw [List.size_toArray, vals_len]
  have hall := all_vals 256 (fun i => f (k * 256 + i))
  have hst : ∀ z : Array Value, z.size = 256 → (Instr.storeAt 64 (.pointer (some ⟨w.heap.size, 0, none⟩)) (.agg (vals 256 (fun i => f (k * 256 + i))).toArray)).run Try.prog (w.alloc (.cells z 64)) = .ok () (w.alloc (.cells (vals 256 (fun i => f (k * 256 + i))).toArray 64)) :=
    fun z hz => run_storeAt_new w 64 z _ (by rw [hsz]; exact (zero_of_info Try.infoP).2) (by rw [hsz, hz]) hall
  have HB : Hid (By (w.alloc (.cells (vals 256 (fun i => f (k * 256 + i))).toArray 64)) w.heap.size 256 (fun i => f (k * 256 + i))) := new_By
  generalize (vals 256 (fun i => f (k * 256 + i))).toArray = C at *
  have hzv := (zero_of_info Try.infoP).1
  have hst1 := hst (Array.replicate 256 (.int .u8 0)) (by simp)
  generalize (Array.replicate 256 (Value.int .u8 0)) = Z at *
  clear hst hall hsz
  go_enter Try.func20, Try.ntmps20
  go_wp2_with fail
  refine (frame_ok HM.out hn k hk).mono ?_
  rintro e w' ⟨rfl, rfl⟩
  have HL : Hid _ := hld
  have HS : Hid _ := hst1
  have HA : Hid _ := har
  clear hld hst1 har
  go_wp2_with (first | (refine wpList_arrayAt rfl 64 (.tmp 18) rfl _ _ rfl HA.out ?_) | (refine wpList_load_at rfl 64 (.tmp 19) rfl _ _ rfl HL.out ?_) | (refine wpList_store_at rfl 64 (.tmp 8) (.tmp 20) rfl _ _ rfl rfl HS.out ?_))
  go_ret2
  exact ⟨_, rfl, HB.out, World.grownBy_alloc _ _ none, Nat.le_refl _⟩
set_option maxRecDepth 100000 in
set_option maxHeartbeats 1000000 in
theorem Put_ok {w : World} {p g n : Nat} {f : Nat → Int} (hM : Mem w p g n f) (hn : n ≤ 4096) (k : Nat) (hk : k < n) (b off cap : Nat) (h : Nat → Int) (hr : Rd w b off 256 h) (hh : okB 256 h) :
    Calls Try.prog 22 #[.pointer (some ⟨p, 0, none⟩), .int .i64 k, .slice (some ⟨b, off, none⟩) 256 cap] w fun e w' => e = .returned (.int .i64 0) ∧ Mem w' p g n (lay f (k * 256) 256 h) ∧ w.grownBy w' (some g) := by
  have hld : (Instr.loadAt 64 (.pointer (some ⟨b, off, none⟩))).run Try.prog w = .ok (.agg (vals 256 h).toArray) w :=
    run_loadAt_at w 64 ⟨b, off, none⟩ _ 256 5 Try.underlying64 (by rw [vals_len]; exact (zero_of_info Try.infoP).2) (fun i v hv => by
        have hi : i < 256 := by have := (List.getElem?_eq_some_iff.1 hv).1; rwa [vals_len] at this
        rw [vals_get _ _ _ hi] at hv
        rw [Go.WideShapes.add_plain, ← hv]
        exact hr.2 _ hi)
  have har := run_arrayAt_at w 64 (some ⟨b, off, none⟩) 256 cap 5 Try.underlying64
  have hsz : (vals 256 h).toArray.size = 256 := by rw [List.size_toArray, vals_len]
  have hall := all_vals 256 h
  have hst : ∀ z : Array Value, z.size = 256 → (Instr.storeAt 64 (.pointer (some ⟨w.heap.size, 0, none⟩)) (.agg (vals 256 h).toArray)).run Try.prog (w.alloc (.cells z 64)) = .ok () (w.alloc (.cells (vals 256 h).toArray 64)) :=
    fun z hz => run_storeAt_new w 64 z _ (by rw [hsz]; exact (zero_of_info Try.infoP).2) (by rw [hsz, hz]) hall
  have hB : By (w.alloc (.cells (vals 256 h).toArray 64)) w.heap.size 256 h := new_By
  have hG1 : w.grownBy (w.alloc (.cells (vals 256 h).toArray 64)) (some g) := World.grownBy_alloc _ _ _
  have hM1 : Mem (w.alloc (.cells (vals 256 h).toArray 64)) p g n f := hM.kept (World.grownBy_alloc _ _ none) (by simp) (by simp)
  generalize hw1 : w.alloc (.cells (vals 256 h).toArray 64) = w1 at *
  have hcp : ∀ ty, (Builtin.copy_ #[33, 33] ty #[.slice (some ⟨g, k * 256, none⟩) 256 256, .slice (some ⟨w.heap.size, 0, none⟩) 256 256]).run Try.prog w1 = .ok (goInt 256) (w1.setCells g (k * 256) (vals 256 h)) := fun ty => by
    have e : Result.ok (goInt (vals 256 h).length) (w1.setCells g (k * 256) (vals 256 h)) = Result.ok (goInt 256) (w1.setCells g (k * 256) (vals 256 h)) := by rw [vals_len]; rfl
    rw [← e]
    exact run_copy_cells w1 33 33 ty 5 g (k * 256) 256 256 ⟨w.heap.size, 0, none⟩ 256 256 (vals 256 h) Try.underlying33 (zero_of_info Try.zeroU).2 (by rw [vals_len]; rfl)
      (fun i v hv => by
        have hi : i < 256 := by have := (List.getElem?_eq_some_iff.1 hv).1; rwa [vals_len] at this
        rw [vals_get _ _ _ hi] at hv
        rw [Go.WideShapes.add_plain, ← hv, Nat.zero_add]
        exact (hB.2 _ hi).1)
      (fun i hi => by rw [vals_len] at hi; rw [(hM1.by'.2 _ (by omega)).1]; rfl) (fun i hi => by rw [vals_len] at hi; exact (hM1.by'.2 _ (by omega)).2) (vals_one _ _)
  have HM : Hid (Mem w p g n f) := hM
  have HM1 : Hid (Mem w1 p g n f) := hM1
  have HZ : Hid (By (w1.setCells g (k * 256) (vals 256 h)) g (n * 256) (lay f (k * 256) 256 h)) := hM1.by'.cells _ _ _ (by omega)
  have HG : Hid (w1.grownBy (w1.setCells g (k * 256) (vals 256 h)) (some g)) := grown_setCells _ _ _ _
  have HG1 : Hid (w.grownBy w1 (some g)) := hG1
  generalize w1.setCells g (k * 256) (vals 256 h) = wz at *
  clear hM hM1 hG1 hw1 hall hB hr
  generalize (vals 256 h).toArray = C at *
  have hzv := (zero_of_info Try.infoP).1
  have hst1 := hst (Array.replicate 256 (.int .u8 0)) (by simp)
  generalize (Array.replicate 256 (Value.int .u8 0)) = Z at *
  clear hst hsz
  have HL : Hid _ := hld
  have HS : Hid _ := hst1
  have HA : Hid _ := har
  clear hld hst1 har
  go_enter Try.func22, Try.ntmps22
  go_wp2_with fail
  refine (frame_ok HM.out hn k hk).mono ?_
  rintro e w' ⟨rfl, rfl⟩
  go_wp2_with (first | (refine wpList_arrayAt rfl 64 (.tmp 22) rfl _ _ rfl HA.out ?_) | (refine wpList_load_at rfl 64 (.tmp 23) rfl _ _ rfl HL.out ?_) | (refine wpList_store_at rfl 64 (.tmp 9) (.tmp 24) rfl _ _ rfl rfl HS.out ?_))
  go_ret
  exact ⟨rfl, HM1.out.turn HG.out HZ.out (HM1.out.ok.lay _ hh), HG1.out.trans HG.out⟩
end Go.Proofs.Ytbfagelmijimeaa
