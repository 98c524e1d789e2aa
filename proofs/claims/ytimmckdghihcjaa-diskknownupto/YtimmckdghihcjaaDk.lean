/- What the calls of package disk give back and write, over the slots' pages; no condition but the ranges that each theorem names. -/
import Derived.Test.YtimmckdghihcjaaMp
import Derived.Deep.RegionHeld3
import Derived.Deep.MidRow
namespace Go.Proofs.Ytimmckdghihcjaa
open Go.ChangeShapes Go.WideShapes Go.ChangeAt Go.RowKit
set_option linter.unusedVariables false

theorem grown_drewN (w : World) (n : Nat) (row : Option Nat) : w.grownBy (w.drewN n) row := ⟨rfl, rfl, rfl, Nat.le_refl _, fun _ _ _ => rfl⟩
/-- A disk: its struct at block p, its map at block b. -/
structure Dk (w : World) (p b N : Nat) (m : Nat → Option (Nat → Int)) : Prop where
  st : Blk w p 51 [.int .i64 N, .map (some b)]
  mp : Mp w b N m
  ne : p ≠ b
  n : N ≤ 1024
theorem Dk.c0 {w : World} {p b N : Nat} {m : Nat → Option (Nat → Int)} (h : Dk w p b N m) : w.cell? ⟨p, 0, none⟩ = some (.int .i64 N) := h.st.cell 0
theorem Dk.c1 {w : World} {p b N : Nat} {m : Nat → Option (Nat → Int)} (h : Dk w p b N m) : w.cell? ⟨p, 1, none⟩ = some (.map (some b)) := h.st.cell 1
theorem Dk.kept {w w' : World} {p b N : Nat} {m : Nat → Option (Nat → Int)} {row : Option Nat} (h : Dk w p b N m) (g : w.grownBy w' row) (hp : some p ≠ row) (hb : some b ≠ row) : Dk w' p b N m :=
  ⟨h.st.kept g hp, h.mp.kept g hb, h.ne, h.n⟩
theorem Dk.turn {w w' : World} {p b N : Nat} {m m' : Nat → Option (Nat → Int)} (h : Dk w p b N m) (g : w.grownBy w' (some b)) (hm : Mp w' b N m') : Dk w' p b N m' :=
  ⟨h.st.kept g (some_ne h.ne), hm, h.ne, h.n⟩
/-- A disk that is none: no pointer, or one to a struct without a map. -/
def NoD (w : World) (q : Option Addr) : Prop := q = none ∨ ∃ p, q = some ⟨p, 0, none⟩ ∧ w.cell? ⟨p, 1, none⟩ = some (.map none)
theorem wpList_delete_at {w : World} {ops : Array Oper} {rest : List Oper} {o : Oper} {a : Act} {Q : Exit → Act → World → Prop} {R : World → Prop} (hgd : o.guard = none) (s x : Operand)
    (ho : o.op = .call { callee := .builtin .delete, args := #[s, x], argTypes := #[49, 3] }) (vs vx : Value) (hs : a.eval s = vs) (hx : a.eval x = vx)
    (hr : ∃ w', (Builtin.delete_ #[49, 3] o.type #[vs, vx]).run Try.prog w = .ok (.tuple #[]) w' ∧ R w') (h : ∀ w', R w' → wpList Try.prog ops Q rest (a.put o.dst (.tuple #[])) w') : wpList Try.prog ops Q (o :: rest) a w := by
  refine wpList_plain hgd fun K hK => ?_
  obtain ⟨w', hr, hR⟩ := hr
  unfold Oper.wp
  simp [execOp, ho, resolve, invoke, builtin, hs, hx, hr, Result.andThen]
  exact hK _ _ (h w' hR)
theorem map_nil (r : Option Nat) : ∀ w : World, (binOp .neq 49 (.map r) (.map none)).run Try.prog w = .ok (.bool r.isSome) w := fun w => by rw [run_neq_map_nil w _ _ _ r Try.underlying49]; cases r <;> rfl
theorem made_any {w : World} {p b N : Nat} {m : Nat → Option (Nat → Int)} (h : Dk w p b N m) : Calls Try.prog 23 #[.pointer (some ⟨p, 0, none⟩)] w fun e w' => e = .returned (.bool true) ∧ w' = w := by
  have hc := h.c1
  have hq := map_nil (some b)
  clear h
  go_enter Try.func23, Try.ntmps23
  go_wp2
  go_ret
  exact ⟨rfl, rfl⟩
theorem made_nil {w : World} {q : Option Addr} (hN : NoD w q) : Calls Try.prog 23 #[.pointer q] w fun e w' => e = .returned (.bool false) ∧ w' = w := by
  rcases hN with rfl | ⟨p, rfl, hc⟩
  · go_enter Try.func23, Try.ntmps23
    go_wp2
    go_ret
    exact ⟨rfl, rfl⟩
  · have hq := map_nil none
    go_enter Try.func23, Try.ntmps23
    go_wp2
    go_ret
    exact ⟨rfl, rfl⟩
theorem New_no (n : Int) (h : n < 0 ∨ 1024 < n) (w : World) : Calls Try.prog 6 #[.int .i64 n] w fun e w' => e = .returned (.tuple #[.pointer none, .int .i64 2]) ∧ w' = w := by
  go_enter Try.func6, Try.ntmps6
  go_wp2
  all_goals (go_ret2; exact ⟨rfl, rfl⟩)
theorem New_ok (n : Nat) (h : n ≤ 1024) (w : World) : Calls Try.prog 6 #[.int .i64 n] w fun e w' => ∃ p b, e = .returned (.tuple #[.pointer (some ⟨p, 0, none⟩), .int .i64 0]) ∧ Dk w' p b n (fun _ => none) ∧ w.grownBy w' none ∧ w.heap.size ≤ p ∧ w.heap.size ≤ b := by
  have hmm := @run_makeMap Try.prog
  go_enter Try.func6, Try.ntmps6
  go_wp2
  go_ret2
  refine ⟨w.heap.size + 1, w.heap.size, by simp, ⟨?_, (mp_new w n).kept (World.grownBy_alloc _ _ none) (by simp), by omega, h⟩, (World.grownBy_alloc _ _ none).trans (World.grownBy_alloc _ _ none), by omega, by omega⟩
  have := blk_new (w.alloc (.map #[] 0)) [.int .i64 n, .map (some w.heap.size)] 51
  simpa using this
theorem Slots_any {w : World} {p b N : Nat} {m : Nat → Option (Nat → Int)} (h : Dk w p b N m) : Calls Try.prog 8 #[.pointer (some ⟨p, 0, none⟩)] w fun e w' => e = .returned (.int .i64 N) ∧ w' = w := by
  have hc := h.c0
  have C1 : Hid (Calls _ _ _ _ _) := made_any h
  clear h
  go_enter Try.func8, Try.ntmps8
  go_wp2_with (go_at_call 23; refine C1.out.mono ?_; rintro e w' ⟨rfl, rfl⟩)
  go_ret
  exact ⟨rfl, rfl⟩
theorem Slots_nil {w : World} {q : Option Addr} (hN : NoD w q) : Calls Try.prog 8 #[.pointer q] w fun e w' => e = .returned (.int .i64 0) ∧ w' = w := by
  have C1 : Hid (Calls _ _ _ _ _) := made_nil hN
  clear hN
  go_enter Try.func8, Try.ntmps8
  go_wp2_with (go_at_call 23; refine C1.out.mono ?_; rintro e w' ⟨rfl, rfl⟩)
  go_ret
  exact ⟨rfl, rfl⟩
theorem asked_ok {w : World} {p b N : Nat} {m : Nat → Option (Nat → Int)} (h : Dk w p b N m) (k : Nat) (hk : k < N) : Calls Try.prog 29 #[.pointer (some ⟨p, 0, none⟩), .int .i64 k] w fun e w' => e = .returned (.int .i64 0) ∧ w' = w := by
  have hc := h.c0
  have C1 : Hid (Calls _ _ _ _ _) := made_any h
  clear h
  go_enter Try.func29, Try.ntmps29
  go_wp2_with (go_at_call 23; refine C1.out.mono ?_; rintro e w' ⟨rfl, rfl⟩)
  go_ret
  exact ⟨rfl, rfl⟩
theorem asked_no {w : World} {p b N : Nat} {m : Nat → Option (Nat → Int)} (h : Dk w p b N m) (k : Int) (hk : ¬ (0 ≤ k ∧ k < N)) : Calls Try.prog 29 #[.pointer (some ⟨p, 0, none⟩), .int .i64 k] w fun e w' => e = .returned (.int .i64 2) ∧ w' = w := by
  have hc := h.c0
  have C1 : Hid (Calls _ _ _ _ _) := made_any h
  clear h
  rcases (show k < 0 ∨ (¬ k < 0 ∧ (N : Int) ≤ k) by omega) with a | ⟨a1, a2⟩
  · go_enter Try.func29, Try.ntmps29
    go_wp2_with (go_at_call 23; refine C1.out.mono ?_; rintro e w' ⟨rfl, rfl⟩)
    go_ret
    exact ⟨rfl, rfl⟩
  · go_enter Try.func29, Try.ntmps29
    go_wp2_with (go_at_call 23; refine C1.out.mono ?_; rintro e w' ⟨rfl, rfl⟩)
    go_ret
    exact ⟨rfl, rfl⟩
theorem asked_nil {w : World} {q : Option Addr} (hN : NoD w q) (k : Int) : Calls Try.prog 29 #[.pointer q, .int .i64 k] w fun e w' => e = .returned (.int .i64 1) ∧ w' = w := by
  have C1 : Hid (Calls _ _ _ _ _) := made_nil hN
  clear hN
  go_enter Try.func29, Try.ntmps29
  go_wp2_with (go_at_call 23; refine C1.out.mono ?_; rintro e w' ⟨rfl, rfl⟩)
  go_ret
  exact ⟨rfl, rfl⟩
/-! ### Write -/
theorem Write_nil {w : World} {q : Option Addr} (hN : NoD w q) (k : Int) (v : Value) : Calls Try.prog 17 #[.pointer q, .int .i64 k, v] w fun e w' => e = .returned (.int .i64 1) ∧ w' = w := by
  have C1 : Hid (Calls _ _ _ _ _) := asked_nil hN k
  clear hN
  go_enter Try.func17, Try.ntmps17
  go_wp2_with (go_at_call 29; refine C1.out.mono ?_; rintro e w' ⟨rfl, rfl⟩)
  go_ret
  exact ⟨rfl, rfl⟩
theorem Write_no {w : World} {p b N : Nat} {m : Nat → Option (Nat → Int)} (h : Dk w p b N m) (k : Int) (hk : ¬ (0 ≤ k ∧ k < N)) (v : Value) : Calls Try.prog 17 #[.pointer (some ⟨p, 0, none⟩), .int .i64 k, v] w fun e w' => e = .returned (.int .i64 2) ∧ w' = w := by
  have C1 : Hid (Calls _ _ _ _ _) := asked_no h k hk
  clear h hk
  go_enter Try.func17, Try.ntmps17
  go_wp2_with (go_at_call 29; refine C1.out.mono ?_; rintro e w' ⟨rfl, rfl⟩)
  go_ret
  exact ⟨rfl, rfl⟩
theorem Write_len {w : World} {p b N : Nat} {m : Nat → Option (Nat → Int)} (h : Dk w p b N m) (k : Nat) (hk : k < N) (ao : Option Addr) (l c : Nat) (hl : l ≠ 256) (hm : l ≤ maxLen) : Calls Try.prog 17 #[.pointer (some ⟨p, 0, none⟩), .int .i64 k, .slice ao l c] w fun e w' => e = .returned (.int .i64 2) ∧ w' = w := by
  have C1 : Hid (Calls _ _ _ _ _) := asked_ok h k hk
  have hb : ((l : Int) != 256) = true := by rw [bne_iff_ne]; omega
  unfold maxLen at hm
  clear h hk
  go_enter Try.func17, Try.ntmps17
  go_wp2_with (go_at_call 29; refine C1.out.mono ?_; rintro e w' ⟨rfl, rfl⟩)
  go_ret
  exact ⟨rfl, rfl⟩
set_option maxRecDepth 100000 in
set_option maxHeartbeats 1000000 in
theorem Write_ok {w : World} {p b N : Nat} {m : Nat → Option (Nat → Int)} (h : Dk w p b N m) (k : Nat) (hk : k < N) (bb off cap : Nat) (u : Nat → Int) (hr : Rd w bb off 256 u) (hu : okB 256 u) (hbb : bb ≠ b) :
    Calls Try.prog 17 #[.pointer (some ⟨p, 0, none⟩), .int .i64 k, .slice (some ⟨bb, off, none⟩) 256 cap] w fun e w' => e = .returned (.int .i64 0) ∧ Dk w' p b N (pt m k (some u)) ∧ w.grownBy w' (some b) := by
  have HD : Hid (Dk w p b N m) := h
  have C1 : Hid (Calls _ _ _ _ _) := asked_ok h k hk
  have hc := h.c1
  have hra : w.rangeAt bb off (vals 256 u) := fun i v hv => by
    have hi : i < 256 := by have := (List.getElem?_eq_some_iff.1 hv).1; rwa [vals_len] at this
    rw [vals_get _ _ _ hi] at hv
    rw [← hv]
    exact hr.2 _ hi
  have hu61 := Try.underlying61
  have hsz : (Try.prog.info? 61).map (·.size) = some (vals 256 u).length := by rw [vals_len]; exact (zero_of_info Try.infoP).2
  have har : ∀ W, (Instr.arrayAt 61 (.slice (some ⟨bb, off, none⟩) 256 cap)).run Try.prog W = .ok (.pointer (some ⟨bb, off, none⟩)) W := fun W => run_arrayAt_at W 61 (some ⟨bb, off, none⟩) 256 cap 5 Try.underlying61
  obtain ⟨wz, hst, hM, hG⟩ := Mp.store (w := w.drew) (h.mp) h.n k hk u hu
  have HM : Hid (Mp wz b N (pt m k (some u))) := hM
  have HG : Hid (w.grownBy wz (some b)) := (grown_drewN w 1 _).trans hG
  have HS2 : Hid (wz.cell? ⟨p, 1, none⟩ = some (.map (some b)) ∧ wz.rangeAt bb off (vals 256 u)) := ⟨(HG.out.cell_far _ h.st.lt (some_ne h.ne)).trans hc, fun i v hv => (HG.out.cell_far _ hr.1 (some_ne hbb)).trans (hra i v hv)⟩
  unfold pv at hst
  generalize vals 256 u = C at *
  clear h hM hG hr hu
  go_enter Try.func17, Try.ntmps17
  go_wp2_with (go_at_call 29; refine C1.out.mono ?_; rintro e w' ⟨rfl, rfl⟩)
  go_region_held3 (fun W => W.cell? ⟨p, 1, none⟩ = some (.map (some b)) ∧ W.rangeAt bb off C) (first | exact ⟨hc, hra⟩ | exact HS2.out) (fail)
  go_wp2
  go_ret
  exact ⟨rfl, HD.out.turn HG.out HM.out, HG.out⟩
/-! ### Read -/
/-- What Read answers: nothing new, or a page in new memory. -/
def Rdd (w : World) (h : Option (Nat → Int)) (er : Int) (e : Ending) (w' : World) : Prop :=
  (h = none ∧ e = .returned (.tuple #[.slice none 0 0, .int .i64 er]) ∨ ∃ u bb c, h = some u ∧ e = .returned (.tuple #[.slice (some ⟨bb, 0, none⟩) 256 c, .int .i64 er]) ∧ By w' bb 256 u ∧ w.heap.size ≤ bb) ∧ w.grownBy w' none
theorem Read_nil {w : World} {q : Option Addr} (hN : NoD w q) (k : Int) : Calls Try.prog 19 #[.pointer q, .int .i64 k] w fun e w' => e = .returned (.tuple #[.slice none 0 0, .int .i64 1]) ∧ w' = w := by
  have C1 : Hid (Calls _ _ _ _ _) := asked_nil hN k
  clear hN
  go_enter Try.func19, Try.ntmps19
  go_wp2_with (go_at_call 29; refine C1.out.mono ?_; rintro e w' ⟨rfl, rfl⟩)
  go_ret2
  exact ⟨rfl, rfl⟩
theorem Read_no {w : World} {p b N : Nat} {m : Nat → Option (Nat → Int)} (h : Dk w p b N m) (k : Int) (hk : ¬ (0 ≤ k ∧ k < N)) : Calls Try.prog 19 #[.pointer (some ⟨p, 0, none⟩), .int .i64 k] w fun e w' => e = .returned (.tuple #[.slice none 0 0, .int .i64 2]) ∧ w' = w := by
  have C1 : Hid (Calls _ _ _ _ _) := asked_no h k hk
  clear h hk
  go_enter Try.func19, Try.ntmps19
  go_wp2_with (go_at_call 29; refine C1.out.mono ?_; rintro e w' ⟨rfl, rfl⟩)
  go_ret2
  exact ⟨rfl, rfl⟩
theorem stored (w : World) (C : Array Value) (h : C.size = 256) (ha : C.all (·.oneCell') = true) : ∀ z : Array Value, z.size = 256 → (Instr.storeAt 61 (.pointer (some ⟨w.heap.size, 0, none⟩)) (.agg C)).run Try.prog (w.alloc (.cells z 61)) = .ok () (w.alloc (.cells C 61)) :=
  fun z hz => run_storeAt_new w 61 z _ (by rw [h]; exact (zero_of_info Try.infoP).2) (by rw [h, hz]) ha
set_option maxRecDepth 100000 in
set_option maxHeartbeats 1000000 in
theorem Read_none {w : World} {p b N : Nat} {m : Nat → Option (Nat → Int)} (h : Dk w p b N m) (k : Nat) (hk : k < N) (e0 : m k = none) :
    Calls Try.prog 19 #[.pointer (some ⟨p, 0, none⟩), .int .i64 k] w fun e w' => e = .returned (.tuple #[.slice none 0 0, .int .i64 60]) ∧ w.grownBy w' none := by
  have C1 : Hid (Calls _ _ _ _ _) := asked_ok h k hk
  have hc := h.c1
  have hlk := h.mp.look_none (by have := h.n; omega) e0
  have hst := stored w (Array.replicate 256 (.int .u8 0)) (by simp) (by kernel_rfl) (Array.replicate 256 (.int .u8 0)) (by simp)
  have hzv := (zero_of_info Try.infoP).1
  clear h hk
  generalize (Array.replicate 256 (Value.int .u8 0)) = Z at *
  have HL : Hid _ := hlk
  have HS : Hid _ := hst
  clear hst
  go_enter Try.func19, Try.ntmps19
  go_wp2_with (first | (go_at_call 29; refine C1.out.mono ?_; rintro e w' ⟨rfl, rfl⟩) | (refine wpList_store_at rfl 61 (.tmp 7) (.tmp 22) rfl _ _ rfl rfl HS.out ?_))
  go_ret2
  exact ⟨rfl, World.grownBy_alloc _ _ none⟩
set_option maxRecDepth 100000 in
set_option maxHeartbeats 1000000 in
theorem Read_ok {w : World} {p b N : Nat} {m : Nat → Option (Nat → Int)} (h : Dk w p b N m) (k : Nat) (u : Nat → Int) (e0 : m k = some u) :
    Calls Try.prog 19 #[.pointer (some ⟨p, 0, none⟩), .int .i64 k] w fun e w' => e = .returned (.tuple #[.slice (some ⟨w.heap.size, 0, none⟩) 256 256, .int .i64 0]) ∧ By w' w.heap.size 256 u ∧ w.grownBy w' none := by
  have C1 : Hid (Calls _ _ _ _ _) := asked_ok h k (h.mp.ok e0).1
  have hc := h.c1
  have hlk := h.mp.look_some h.n e0
  unfold pv at hlk
  have hst := stored w (vals 256 u).toArray (by rw [List.size_toArray, vals_len]) (all_vals 256 u) (Array.replicate 256 (.int .u8 0)) (by simp)
  have hzv := (zero_of_info Try.infoP).1
  have HB : Hid (By (w.alloc (.cells (vals 256 u).toArray 61)) w.heap.size 256 u) := new_By
  clear h
  generalize (Array.replicate 256 (Value.int .u8 0)) = Z at *
  generalize (vals 256 u).toArray = C at *
  have HS : Hid _ := hst
  clear hst
  go_enter Try.func19, Try.ntmps19
  go_wp2_with (first | (go_at_call 29; refine C1.out.mono ?_; rintro e w' ⟨rfl, rfl⟩) | (refine wpList_store_at rfl 61 (.tmp 7) (.tmp 22) rfl _ _ rfl rfl HS.out ?_))
  go_ret2
  exact ⟨rfl, HB.out, World.grownBy_alloc _ _ none⟩
/-! ### Erase -/
theorem Erase_nil {w : World} {q : Option Addr} (hN : NoD w q) (k : Int) : Calls Try.prog 20 #[.pointer q, .int .i64 k] w fun e w' => e = .returned (.int .i64 1) ∧ w' = w := by
  have C1 : Hid (Calls _ _ _ _ _) := asked_nil hN k
  clear hN
  go_enter Try.func20, Try.ntmps20
  go_wp2_with (go_at_call 29; refine C1.out.mono ?_; rintro e w' ⟨rfl, rfl⟩)
  go_ret
  exact ⟨rfl, rfl⟩
theorem Erase_no {w : World} {p b N : Nat} {m : Nat → Option (Nat → Int)} (h : Dk w p b N m) (k : Int) (hk : ¬ (0 ≤ k ∧ k < N)) : Calls Try.prog 20 #[.pointer (some ⟨p, 0, none⟩), .int .i64 k] w fun e w' => e = .returned (.int .i64 2) ∧ w' = w := by
  have C1 : Hid (Calls _ _ _ _ _) := asked_no h k hk
  clear h hk
  go_enter Try.func20, Try.ntmps20
  go_wp2_with (go_at_call 29; refine C1.out.mono ?_; rintro e w' ⟨rfl, rfl⟩)
  go_ret
  exact ⟨rfl, rfl⟩
set_option maxRecDepth 100000 in
set_option maxHeartbeats 1000000 in
theorem Erase_none {w : World} {p b N : Nat} {m : Nat → Option (Nat → Int)} (h : Dk w p b N m) (k : Nat) (hk : k < N) (e0 : m k = none) :
    Calls Try.prog 20 #[.pointer (some ⟨p, 0, none⟩), .int .i64 k] w fun e w' => e = .returned (.int .i64 60) ∧ w.grownBy w' none := by
  have C1 : Hid (Calls _ _ _ _ _) := asked_ok h k hk
  have hc := h.c1
  have hlk := h.mp.look_none (by have := h.n; omega) e0
  have hst := stored w (Array.replicate 256 (.int .u8 0)) (by simp) (by kernel_rfl) (Array.replicate 256 (.int .u8 0)) (by simp)
  have hzv := (zero_of_info Try.infoP).1
  clear h hk
  generalize (Array.replicate 256 (Value.int .u8 0)) = Z at *
  have HS : Hid _ := hst
  clear hst
  go_enter Try.func20, Try.ntmps20
  go_wp2_with (first | (go_at_call 29; refine C1.out.mono ?_; rintro e w' ⟨rfl, rfl⟩) | (refine wpList_store_at rfl 61 (.tmp 6) (.tmp 21) rfl _ _ rfl rfl HS.out ?_))
  go_ret
  exact ⟨rfl, World.grownBy_alloc _ _ none⟩
set_option maxRecDepth 100000 in
set_option maxHeartbeats 1000000 in
theorem Erase_ok {w : World} {p b N : Nat} {m : Nat → Option (Nat → Int)} (h : Dk w p b N m) (k : Nat) (u : Nat → Int) (e0 : m k = some u) :
    Calls Try.prog 20 #[.pointer (some ⟨p, 0, none⟩), .int .i64 k] w fun e w' => e = .returned (.int .i64 0) ∧ Dk w' p b N (pt m k none) ∧ w.grownBy w' (some b) := by
  have C1 : Hid (Calls _ _ _ _ _) := asked_ok h k (h.mp.ok e0).1
  have hc := h.c1
  have hk := (h.mp.ok e0).1
  have hN := h.n
  have hlk := h.mp.look_some h.n e0
  unfold pv at hlk
  have hst := stored w (vals 256 u).toArray (by rw [List.size_toArray, vals_len]) (all_vals 256 u) (Array.replicate 256 (.int .u8 0)) (by simp)
  have hzv := (zero_of_info Try.infoP).1
  have hG : w.grownBy (w.alloc (.cells (vals 256 u).toArray 61)) (some b) := World.grownBy_alloc _ _ _
  have hD2 : Dk (w.alloc (.cells (vals 256 u).toArray 61)) p b N m := h.kept (World.grownBy_alloc _ _ none) (by simp) (by simp)
  have hdel : ∀ ty, ∃ w', (Builtin.delete_ #[49, 3] ty #[.map (some b), .int .i64 k]).run Try.prog (w.alloc (.cells (vals 256 u).toArray 61)) = .ok (.tuple #[]) w' ∧ Mp w' b N (pt m k none) ∧ (w.alloc (.cells (vals 256 u).toArray 61)).grownBy w' (some b) := fun ty => hD2.mp.drop k (by omega) ty
  have hc2 := hD2.c1
  generalize hw2 : w.alloc (.cells (vals 256 u).toArray 61) = w2 at *
  have HD2 : Hid (Dk w2 p b N m) := hD2
  have HG : Hid (w.grownBy w2 (some b)) := hG
  have HDE : Hid (∀ ty, ∃ w', (Builtin.delete_ #[49, 3] ty #[.map (some b), .int .i64 k]).run Try.prog w2 = .ok (.tuple #[]) w' ∧ Mp w' b N (pt m k none) ∧ w2.grownBy w' (some b)) := hdel
  clear h hD2 hG hdel hw2
  generalize (Array.replicate 256 (Value.int .u8 0)) = Z at *
  generalize (vals 256 u).toArray = C at *
  have HS : Hid _ := hst
  clear hst
  go_enter Try.func20, Try.ntmps20
  go_wp2_with (first | (go_at_call 29; refine C1.out.mono ?_; rintro e w' ⟨rfl, rfl⟩) | (refine wpList_store_at rfl 61 (.tmp 6) (.tmp 21) rfl _ _ rfl rfl HS.out ?_) | (at_delete; refine wpList_delete_at rfl (.tmp 28) (.tmp 29) rfl _ _ rfl rfl (HDE.out _) ?_; rintro w3 ⟨hM3, hG3⟩))
  go_ret
  exact ⟨rfl, HD2.out.turn hG3 hM3, HG.out.trans hG3⟩
end Go.Proofs.Ytimmckdghihcjaa
