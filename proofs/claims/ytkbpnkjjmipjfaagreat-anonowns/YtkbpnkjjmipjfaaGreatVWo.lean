/- What Worst and Most of package cost give back: of every kind for costs and a shape that may be, and the errno where they may not. -/
import Derived.Test.YtkbpnkjjmipjfaaGreatVBw
import Derived.Test.YtkbpnkjjmipjfaaGreatVCl
namespace Go.Proofs.YtkbpnkjjmipjfaaGreat
open Go.ChangeShapes Go.WideShapes Go.ChangeAt Go.RowKit
set_option linter.unusedVariables false

structure Bx (w0 w : World) (b b' : Nat) (c : Co) (s : Sh) : Prop where
  be : Below w0.heap.size w0 w
  cs : Six w b c
  ss : Fou w b' s
theorem Bx.below {w0 w w' : World} {b b' : Nat} {c : Co} {s : Sh} (h : Bx w0 w b b' c s) (k : Below w.heap.size w w') : Bx w0 w' b b' c s := ⟨h.be.trans (k.mono h.be.size), h.cs.below k, h.ss.below k⟩
theorem bx_new (w : World) (c : Co) (s : Sh) : Bx w ((w.alloc (.cells #[.int .u64 c.l1, .int .u64 c.llc, .int .u64 c.mi, .int .u64 c.fa, .int .u64 c.st, .int .u64 c.di] 24)).alloc (.cells #[.int .i64 s.im, .int .i64 s.us, .int .i64 s.li, .int .i64 s.no] 230)) w.heap.size (w.heap.size + 1) c s :=
  ⟨below_two _ _ _, (six_new w c).below (below_new _ _), by simpa using fou_new (w.alloc (.cells #[.int .u64 c.l1, .int .u64 c.llc, .int .u64 c.mi, .int .u64 c.fa, .int .u64 c.st, .int .u64 c.di] 24)) s⟩
theorem Tryz.info274 : (Tryz.prog.info? 274).map (·.size) = some 1 := by kernel_rfl
theorem run_index53 (cs : Array Value) (k : IntKind) (i : Nat) (v : Value) (hi : i < 11) (hv : cs[i]? = some v) (w : World) : (Instr.index 309 (.agg cs) (.int k (i : Int))).run Tryz.prog w = .ok v w := by
  have hz : (sizeOf 274).run Tryz.prog w = .ok 1 w := by
    cases hq : Tryz.prog.info? 274 with
    | none => have := Tryz.info274; simp [hq] at this
    | some i => have := Tryz.info274; simp [hq] at this; simp [sizeOf, typeInfo, hq, this]
  have ha : (isAgg 274).run Tryz.prog w = .ok false w := by simp [isAgg, run_underlying Tryz.underlying274]
  have hp : (part 274 cs i).run Tryz.prog w = .ok v w := by simp [part, ha, hv]
  simp [Instr.index, run_underlying Tryz.underlying309, asIntOf, hz, hi, hp]
theorem ers_ok {c : Co} {s : Sh} (h : c.Ok) (k : s.Ok) : ers c s = 0 := ers_t (okC_iff.2 h) (okS_iff.2 k)
def mx (c : Co) (s : Sh) : Nat → Int
  | 0 => 0
  | j + 1 => max (mx c s j) (bd c s j)
def iv : Value → Int
  | .int _ a => a
  | _ => 0
set_option maxHeartbeats 2000000 in
theorem Most_ok (c : Co) (s : Sh) (h : c.Ok) (k : s.Ok) (w : World) : Calls Tryz.prog 238 #[.agg #[.int .u64 c.l1, .int .u64 c.llc, .int .u64 c.mi, .int .u64 c.fa, .int .u64 c.st, .int .u64 c.di], .agg #[.int .i64 s.im, .int .i64 s.us, .int .i64 s.li, .int .i64 s.no]] w (Two (mx c s 11) 0 w) := by
  have B0 : Hid (Bx w ((w.alloc (.cells #[.int .u64 c.l1, .int .u64 c.llc, .int .u64 c.mi, .int .u64 c.fa, .int .u64 c.st, .int .u64 c.di] 24)).alloc (.cells #[.int .i64 s.im, .int .i64 s.us, .int .i64 s.li, .int .i64 s.no] 230)) w.heap.size (w.heap.size + 1) c s) := bx_new w c s
  have C := check_any c s ((w.alloc (.cells #[.int .u64 c.l1, .int .u64 c.llc, .int .u64 c.mi, .int .u64 c.fa, .int .u64 c.st, .int .u64 c.di] 24)).alloc (.cells #[.int .i64 s.im, .int .i64 s.us, .int .i64 s.li, .int .i64 s.no] 230))
  rw [ers_ok h k] at C
  have p := pt_of h k
  go_enter Tryz.func238, Tryz.ntmps238
  go_wp2_with fail
  refine C.mono ?_
  rintro e w1 ⟨rfl, k1⟩
  have B1 : Hid (Bx w w1 w.heap.size (w.heap.size + 1) c s) := B0.out.below k1
  have C2 : Hid (Calls Tryz.prog 251 #[.agg #[.int .u64 c.l1, .int .u64 c.llc, .int .u64 c.mi, .int .u64 c.fa, .int .u64 c.st, .int .u64 c.di], .agg #[.int .i64 s.im, .int .i64 s.us, .int .i64 s.li, .int .i64 s.no]] w1 (Bnd c s w1)) := bounds_any c s h k w1
  obtain ⟨_, c0, c1, c2, c3, c4, c5⟩ := B1.out.cs
  obtain ⟨_, s0, s1, s2, s3⟩ := B1.out.ss
  clear C k1 B0
  go_wp2_with fail
  refine C2.out.mono ?_
  rintro e w2 ⟨gc, gl, gn, ge, gf, gp, go, rfl, B, k2⟩
  have FIN : Hid (Below w.heap.size w w2) := B1.out.be.trans (k2.mono B1.out.be.size)
  have HB : Hid (Bn w2 gc gl gn ge gf gp go c s) := B
  clear C2 k2 B1 c0 c1 c2 c3 c4 c5 s0 s1 s2 s3 B
  go_wp2_with fail
  go_loopw [7, 19] (fun m i wr => ∃ j : Nat, j ≤ 11 ∧ i = .int .i64 j ∧ m = .int .u64 (mx c s j) ∧ Bn wr gc gl gn ge gf gp go c s ∧ Below w.heap.size w wr) (fun _ i _ => 11 - (iv i).toNat)
  case atStart => exact ⟨0, by omega, rfl, rfl, HB.out, FIN.out⟩
  case round =>
    clear FIN HB
    obtain ⟨j, hj, rfl, rfl, hB, hF⟩ := hrel
    have HB : Hid (Bn wr gc gl gn ge gf gp go c s) := hB
    have FIN : Hid (Below w.heap.size w wr) := hF
    clear hB hF
    by_cases hlt : j < 11
    · have hq : j = 0 ∨ j = 1 ∨ j = 2 ∨ j = 3 ∨ j = 4 ∨ j = 5 ∨ j = 6 ∨ j = 7 ∨ j = 8 ∨ j = 9 ∨ j = 10 := by omega
      clear hlt hj
      rcases hq with rfl | rfl | rfl | rfl | rfl | rfl | rfl | rfl | rfl | rfl | rfl
      · have hm : mx c s (0 + 1) = max (mx c s 0) (bd c s 0) := rfl
        have hix : ∀ w, (Instr.index 309 (.agg (fnL gc gl gn ge gf gp go).toArray) (.int .i64 0)).run Tryz.prog w = .ok (.func (.func 255) #[] #[.pointer (some ⟨ge, 0, none⟩)]) w := fun w => run_index53 _ _ 0 _ (by omega) rfl w
        generalize mx c s 0 = u at *
        go_wp2_with (go_at_call 255; refine (cl0 HB.out h k p).mono ?_; rintro e w3 ⟨rfl, rfl⟩)
        all_goals
          go_roundw
          case rel => exact ⟨0 + 1, by omega, by go_num, by rw [hm]; congr 1; omega, HB.out, FIN.out⟩
          case measure => simp [iv]
      · have hm : mx c s (1 + 1) = max (mx c s 1) (bd c s 1) := rfl
        have hix : ∀ w, (Instr.index 309 (.agg (fnL gc gl gn ge gf gp go).toArray) (.int .i64 1)).run Tryz.prog w = .ok (.func (.func 256) #[] #[.pointer (some ⟨ge, 0, none⟩), .pointer (some ⟨gc, 0, none⟩)]) w := fun w => run_index53 _ _ 1 _ (by omega) rfl w
        generalize mx c s 1 = u at *
        go_wp2_with (go_at_call 256; refine (cl1 HB.out h k p).mono ?_; rintro e w3 ⟨rfl, rfl⟩)
        all_goals
          go_roundw
          case rel => exact ⟨1 + 1, by omega, by go_num, by rw [hm]; congr 1; omega, HB.out, FIN.out⟩
          case measure => simp [iv]
      · have hm : mx c s (2 + 1) = max (mx c s 2) (bd c s 2) := rfl
        have hix : ∀ w, (Instr.index 309 (.agg (fnL gc gl gn ge gf gp go).toArray) (.int .i64 2)).run Tryz.prog w = .ok (.func (.func 257) #[] #[.pointer (some ⟨ge, 0, none⟩), .pointer (some ⟨gl, 0, none⟩), .pointer (some ⟨gp, 0, none⟩), .pointer (some ⟨gc, 0, none⟩)]) w := fun w => run_index53 _ _ 2 _ (by omega) rfl w
        generalize mx c s 2 = u at *
        go_wp2_with (go_at_call 257; refine (cl2 HB.out h k p).mono ?_; rintro e w3 ⟨rfl, rfl⟩)
        all_goals
          go_roundw
          case rel => exact ⟨2 + 1, by omega, by go_num, by rw [hm]; congr 1; omega, HB.out, FIN.out⟩
          case measure => simp [iv]
      · have hm : mx c s (3 + 1) = max (mx c s 3) (bd c s 3) := rfl
        have hix : ∀ w, (Instr.index 309 (.agg (fnL gc gl gn ge gf gp go).toArray) (.int .i64 3)).run Tryz.prog w = .ok (.func (.func 258) #[] #[.pointer (some ⟨ge, 0, none⟩), .pointer (some ⟨gc, 0, none⟩), .pointer (some ⟨gn, 0, none⟩), .pointer (some ⟨gl, 0, none⟩), .pointer (some ⟨gp, 0, none⟩)]) w := fun w => run_index53 _ _ 3 _ (by omega) rfl w
        generalize mx c s 3 = u at *
        go_wp2_with (go_at_call 258; refine (cl3 HB.out h k p).mono ?_; rintro e w3 ⟨rfl, rfl⟩)
        all_goals
          go_roundw
          case rel => exact ⟨3 + 1, by omega, by go_num, by rw [hm]; congr 1; omega, HB.out, FIN.out⟩
          case measure => simp [iv]
      · have hm : mx c s (4 + 1) = max (mx c s 4) (bd c s 4) := rfl
        have hix : ∀ w, (Instr.index 309 (.agg (fnL gc gl gn ge gf gp go).toArray) (.int .i64 4)).run Tryz.prog w = .ok (.func (.func 259) #[] #[.pointer (some ⟨ge, 0, none⟩), .pointer (some ⟨gc, 0, none⟩)]) w := fun w => run_index53 _ _ 4 _ (by omega) rfl w
        generalize mx c s 4 = u at *
        go_wp2_with (go_at_call 259; refine (cl4 HB.out h k p).mono ?_; rintro e w3 ⟨rfl, rfl⟩)
        all_goals
          go_roundw
          case rel => exact ⟨4 + 1, by omega, by go_num, by rw [hm]; congr 1; omega, HB.out, FIN.out⟩
          case measure => simp [iv]
      · have hm : mx c s (5 + 1) = max (mx c s 5) (bd c s 5) := rfl
        have hix : ∀ w, (Instr.index 309 (.agg (fnL gc gl gn ge gf gp go).toArray) (.int .i64 5)).run Tryz.prog w = .ok (.func (.func 260) #[] #[.pointer (some ⟨ge, 0, none⟩), .pointer (some ⟨gp, 0, none⟩)]) w := fun w => run_index53 _ _ 5 _ (by omega) rfl w
        generalize mx c s 5 = u at *
        go_wp2_with (go_at_call 260; refine (cl5 HB.out h k p).mono ?_; rintro e w3 ⟨rfl, rfl⟩)
        all_goals
          go_roundw
          case rel => exact ⟨5 + 1, by omega, by go_num, by rw [hm]; congr 1; omega, HB.out, FIN.out⟩
          case measure => simp [iv]
      · have hm : mx c s (6 + 1) = max (mx c s 6) (bd c s 6) := rfl
        have hix : ∀ w, (Instr.index 309 (.agg (fnL gc gl gn ge gf gp go).toArray) (.int .i64 6)).run Tryz.prog w = .ok (.func (.func 261) #[] #[.pointer (some ⟨ge, 0, none⟩), .pointer (some ⟨gc, 0, none⟩)]) w := fun w => run_index53 _ _ 6 _ (by omega) rfl w
        generalize mx c s 6 = u at *
        go_wp2_with (go_at_call 261; refine (cl6 HB.out h k p).mono ?_; rintro e w3 ⟨rfl, rfl⟩)
        all_goals
          go_roundw
          case rel => exact ⟨6 + 1, by omega, by go_num, by rw [hm]; congr 1; omega, HB.out, FIN.out⟩
          case measure => simp [iv]
      · have hm : mx c s (7 + 1) = max (mx c s 7) (bd c s 7) := rfl
        have hix : ∀ w, (Instr.index 309 (.agg (fnL gc gl gn ge gf gp go).toArray) (.int .i64 7)).run Tryz.prog w = .ok (.func (.func 262) #[] #[.pointer (some ⟨go, 0, none⟩)]) w := fun w => run_index53 _ _ 7 _ (by omega) rfl w
        generalize mx c s 7 = u at *
        go_wp2_with (go_at_call 262; refine (cl7 HB.out h k p).mono ?_; rintro e w3 ⟨rfl, k3⟩)
        all_goals
          go_roundw
          case rel => exact ⟨7 + 1, by omega, by go_num, by rw [hm]; congr 1; omega, HB.out.below k3, FIN.out.trans (k3.mono FIN.out.size)⟩
          case measure => simp [iv]
      · have hm : mx c s (8 + 1) = max (mx c s 8) (bd c s 8) := rfl
        have hix : ∀ w, (Instr.index 309 (.agg (fnL gc gl gn ge gf gp go).toArray) (.int .i64 8)).run Tryz.prog w = .ok (.func (.func 263) #[] #[.pointer (some ⟨ge, 0, none⟩), .pointer (some ⟨gc, 0, none⟩), .pointer (some ⟨gf, 0, none⟩)]) w := fun w => run_index53 _ _ 8 _ (by omega) rfl w
        generalize mx c s 8 = u at *
        go_wp2_with (go_at_call 263; refine (cl8 HB.out h k p).mono ?_; rintro e w3 ⟨rfl, rfl⟩)
        all_goals
          go_roundw
          case rel => exact ⟨8 + 1, by omega, by go_num, by rw [hm]; congr 1; omega, HB.out, FIN.out⟩
          case measure => simp [iv]
      · have hm : mx c s (9 + 1) = max (mx c s 9) (bd c s 9) := rfl
        have hix : ∀ w, (Instr.index 309 (.agg (fnL gc gl gn ge gf gp go).toArray) (.int .i64 9)).run Tryz.prog w = .ok (.func (.func 264) #[] #[.pointer (some ⟨ge, 0, none⟩), .pointer (some ⟨gc, 0, none⟩), .pointer (some ⟨gf, 0, none⟩)]) w := fun w => run_index53 _ _ 9 _ (by omega) rfl w
        generalize mx c s 9 = u at *
        go_wp2_with (go_at_call 264; refine (cl9 HB.out h k p).mono ?_; rintro e w3 ⟨rfl, rfl⟩)
        all_goals
          go_roundw
          case rel => exact ⟨9 + 1, by omega, by go_num, by rw [hm]; congr 1; omega, HB.out, FIN.out⟩
          case measure => simp [iv]
      · have hm : mx c s (10 + 1) = max (mx c s 10) (bd c s 10) := rfl
        have hix : ∀ w, (Instr.index 309 (.agg (fnL gc gl gn ge gf gp go).toArray) (.int .i64 10)).run Tryz.prog w = .ok (.func (.func 265) #[] #[.pointer (some ⟨ge, 0, none⟩)]) w := fun w => run_index53 _ _ 10 _ (by omega) rfl w
        generalize mx c s 10 = u at *
        go_wp2_with (go_at_call 265; refine (cl10 HB.out h k p).mono ?_; rintro e w3 ⟨rfl, rfl⟩)
        all_goals
          go_roundw
          case rel => exact ⟨10 + 1, by omega, by go_num, by rw [hm]; congr 1; omega, HB.out, FIN.out⟩
          case measure => simp [iv]
    · obtain rfl : j = 11 := by omega
      go_wp2
      go_ret2
      exact ⟨rfl, FIN.out⟩
end Go.Proofs.YtkbpnkjjmipjfaaGreat
