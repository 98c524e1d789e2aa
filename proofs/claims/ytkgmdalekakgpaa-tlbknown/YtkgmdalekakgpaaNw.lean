/- The closed law TlbKnown walked. -/
import Derived.Test.YtkgmdalekakgpaaNe
import Derived.Deep.AppendLies
import Derived.Deep.CutBlock
import Derived.Laws.OwnMore
namespace Go.Proofs.Ytkgmdalekakgpaa
open Go.ChangeShapes Go.WideShapes Go.ChangeAt Go.RowKit
set_option linter.unusedVariables false
set_option linter.unusedSimpArgs false

theorem Try.infoE : (Try.prog.info? 24).map (fun i => (i.zero, i.size, i.bytes)) = some (some (.int .i64 0), 1, 8) := by kernel_rfl
def l10 : List Value := [.int .i64 (-1), .int .i64 0, .int .i64 128, .int .i64 0, .int .i64 0, .int .i64 (-1), .int .i64 0, .int .i64 1048576, .int .i64 127, .int .i64 1048575]
def es5 : List Value := [.int .i64 2, .int .i64 2, .int .i64 2, .int .i64 2, .int .i64 0]
/-- What the round j asks, and what it is told. -/
theorem ask (j : Nat) (hj : j < 5) : ∃ a g er : Int, l10[j * 2]? = some (.int .i64 a) ∧ l10[j * 2 + 1]? = some (.int .i64 g) ∧ es5[j]? = some (.int .i64 er) ∧ ((er = 2 ∧ j < 4 ∧ (okA a = false ∨ okP g = false)) ∨ (er = 0 ∧ j = 4 ∧ a = 127 ∧ g = 1048575)) := by
  match j, hj with
  | 0, _ => exact ⟨-1, 0, 2, rfl, rfl, rfl, Or.inl ⟨rfl, by omega, Or.inl (by simp [okA])⟩⟩
  | 1, _ => exact ⟨128, 0, 2, rfl, rfl, rfl, Or.inl ⟨rfl, by omega, Or.inl (by simp [okA])⟩⟩
  | 2, _ => exact ⟨0, -1, 2, rfl, rfl, rfl, Or.inl ⟨rfl, by omega, Or.inr (by simp [okP])⟩⟩
  | 3, _ => exact ⟨0, 1048576, 2, rfl, rfl, rfl, Or.inl ⟨rfl, by omega, Or.inr (by simp [okP])⟩⟩
  | 4, _ => exact ⟨127, 1048575, 0, rfl, rfl, rfl, Or.inr ⟨rfl, rfl, rfl, rfl⟩⟩
theorem row_of_eq {w w' : World} {B size n : Nat} {e : TypeId} {v : Value} {xs : List Value} (h : w.ownsRow B e size v n xs) (eq : ∀ g, v.ownBlock = some g → w'.heap[g]? = w.heap[g]?) : w'.ownsRow B e size v n xs := by
  refine ⟨h.1, ?_⟩
  rcases h.2 with h1 | ⟨g, cap, cur, h1, h2, h3, h4⟩
  · exact Or.inl h1
  · subst h1
    exact Or.inr ⟨g, cap, cur, rfl, h2, (eq g rfl).trans h3, h4⟩
/-- What a round keeps: the box, the list, the errors so far. -/
structure Rd (w1 : World) (N j bx : Nat) (a g : Int) (u : Value) (W : World) : Prop where
  b : Below w1.heap.size w1 W
  x : Blk W bx 56 [.int .i64 a, .int .i64 g]
  o : W.ownsRow (N + 1) 24 1 u j (es5.take j)
  q : Blk W N 56 l10
theorem Rd.below {w1 : World} {N j bx : Nat} {a g : Int} {u : Value} {W W' : World} (h : Rd w1 N j bx a g u W) (k : Below W.heap.size W W') : Rd w1 N j bx a g u W' :=
  ⟨h.b.trans (k.mono h.b.size), h.x.below k, row_of_eq h.o (fun i hi => k.block i (h.o.lt i hi).2), h.q.below k⟩
theorem Rd.y0 {w1 : World} {N j bx : Nat} {a g : Int} {u : Value} {W : World} (h : Rd w1 N j bx a g u W) : W.cell? ⟨bx, 0, none⟩ = some (.int .i64 a) := h.x.cell 0
theorem Rd.y1 {w1 : World} {N j bx : Nat} {a g : Int} {u : Value} {W : World} (h : Rd w1 N j bx a g u W) : W.cell? ⟨bx, 1, none⟩ = some (.int .i64 g) := h.x.cell 1
theorem one_cell (w : World) (er : Int) : ∀ j u, ([.int .i64 er] : List Value)[j]? = some u → (w.alloc (.cells #[.int .i64 er] 24)).cell? ((⟨w.heap.size, 0, none⟩ : Addr).add j) = some u := fun j u h => by
  rw [Go.WideShapes.add_plain, Nat.zero_add, (blk_new w [.int .i64 er] 24).cell]
  exact h
theorem e_ok : okA 127 = true ∧ okP 1048575 = true := by simp [okA, okP]
/-- What the loop keeps: the TLB as New made it, till the fifth. -/
def Lkn (w w1 : World) (p : Nat) (j : Nat) (W : World) : Prop := (j < 5 ∧ Below w1.heap.size w1 W) ∨ (j = 5 ∧ On (fun k => k < w.heap.size) w W p 64 [e7])
/-- What Fill leaves in the round j: the blocks from N on are as they were. -/
structure Fx (w w1 : World) (p j : Nat) (W W' : World) : Prop where
  size : W.heap.size ≤ W'.heap.size
  block : ∀ k, w1.heap.size ≤ k → k < W.heap.size → W'.heap[k]? = W.heap[k]?
  then' : ∀ W3 g, W'.grownBy W3 g → (∀ k, g = some k → w1.heap.size ≤ k ∧ (k < W.heap.size ∨ W'.heap.size ≤ k)) → Lkn w w1 p (j + 1) W3
theorem fx_bad {w w1 W W' : World} {p j : Nat} (hj : j < 4) (hB : Below w1.heap.size w1 W) (hb : Below W.heap.size W W') : Fx w w1 p j W W' where
  size := hb.size
  block := fun k _ hk => hb.block k hk
  then' := fun W3 g G hg => Or.inl ⟨by omega, (hB.trans (hb.mono hB.size)).grown G (Nat.le_trans hB.size hb.size) (fun k hk => (hg k hk).1)⟩
theorem fx_ok {w w1 W W' : World} {p j : Nat} {F : Nat → Prop} (hj : j = 4) (hw : Kp (fun _ => False) F w w1) (hF : ∀ k, F k → k < w1.heap.size) (hB : Below w1.heap.size w1 W) (hL : Lv W F p 64 [e7] W') : Fx w w1 p j W W' := by
  obtain ⟨F', c, k⟩ := hL
  have s0 := hw.size
  have s1 := hB.size
  have s2 := k.size
  have b0 := hw.below w.heap.size (Nat.le_refl _) (fun i q => q.elim)
  refine ⟨k.size, fun i hi hlt => k.block i hlt (fun hFi => by have := hF i hFi; omega), fun W3 g G hg => Or.inr ⟨by omega, F', c.of_eq G.size (fun i hi => G.block i (c.lt i hi) (fun e => ?_)), fun i hi hFi => ?_, ?_⟩⟩
  · have h1 := hg i e.symm
    have h2 := c.lt i hi
    rcases k.new i hi with q | q
    · have := hF i q; omega
    · omega
  · rcases k.new i hFi with q | q
    · rcases hw.new i q with q | q
      · exact q
      · omega
    · omega
  · have e1 : ∀ i, i < w.heap.size → W3.heap[i]? = w.heap[i]? := fun i hi => by
      have h1 : W3.heap[i]? = W'.heap[i]? := G.block i (by omega) (fun e => by have := hg i e.symm; omega)
      have h2 : W'.heap[i]? = W.heap[i]? := k.block i (by omega) (fun hFi => by
        rcases hw.new i hFi with q | q
        · exact q
        · omega)
      exact h1.trans (h2.trans ((hB.block i (by omega)).trans (b0.block i hi)))
    exact ⟨G.os.trans (k.os.trans (hB.os.trans hw.os)), G.tape.trans (k.tape.trans (hB.tape.trans hw.tape)), G.output.trans (k.output.trans (hB.output.trans hw.output)), by have := G.size; omega, e1, fun i hi => hi⟩
set_option maxRecDepth 1000000 in
set_option maxHeartbeats 8000000 in
theorem known_walk (w : World) : Calls Try.prog 6 #[] w fun e w' => e = .returned (.bool true) ∧ Below w.heap.size w w' := by
  obtain ⟨i0, hi0, hz0, hz1, hz2⟩ := info_parts Try.infoE
  go_enter Try.func6, Try.ntmps6
  go_wp2_with fail
  refine (New_no 0 (Or.inl (by omega)) w).mono ?_
  rintro e w' ⟨rfl, e1⟩
  have e2 := e1.symm
  subst e2
  clear e1
  go_wp2_with fail
  refine (New_no 65 (Or.inr (by omega)) w).mono ?_
  rintro e w' ⟨rfl, e1⟩
  have e2 := e1.symm
  subst e2
  clear e1
  go_wp2_with fail
  refine (New_ok 64 (by omega) (by omega) w).mono ?_
  rintro e w1 ⟨p, F, rfl, hC, hK⟩
  have CA : Hid (Ca w1 F p 64 []) := hC
  have KA : Hid (Kp (fun _ => False) F w w1) := hK
  have HF : Hid (∀ k, F k → k < w1.heap.size) := hC.lt
  clear hC hK
  go_upto_block 0 with fail
  have B2 : Hid (Below w1.heap.size w1 (w1.alloc (.cells #[.int .i64 (-1), .int .i64 0, .int .i64 128, .int .i64 0, .int .i64 0, .int .i64 (-1), .int .i64 0, .int .i64 1048576, .int .i64 127, .int .i64 1048575] 56))) := below_new _ _
  have Q2 : Hid (Blk (w1.alloc (.cells #[.int .i64 (-1), .int .i64 0, .int .i64 128, .int .i64 0, .int .i64 0, .int .i64 (-1), .int .i64 0, .int .i64 1048576, .int .i64 127, .int .i64 1048575] 56)) w1.heap.size 56 l10) := blk_new w1 l10 56
  generalize w1.alloc (.cells #[.int .i64 (-1), .int .i64 0, .int .i64 128, .int .i64 0, .int .i64 0, .int .i64 (-1), .int .i64 0, .int .i64 1048576, .int .i64 127, .int .i64 1048575] 56) = w2 at *
  obtain ⟨N, hN⟩ : ∃ N, w1.heap.size = N := ⟨_, rfl⟩
  rw [hN] at Q2
  rw [hN]
  rename_i Kc hKc
  go_cut [7] (fun v wc => ∃ ge cap, v = .slice (some ⟨ge, 0, none⟩) 5 cap ∧ (5 ≤ cap ∧ cap ≤ 9223372036854775807) ∧ ge < wc.heap.size ∧ On (fun k => k < w.heap.size) w wc p 64 [e7] ∧ (wc.cell? ⟨ge, 0, none⟩ = some (.int .i64 2) ∧ wc.cell? ⟨ge, 1, none⟩ = some (.int .i64 2) ∧ wc.cell? ⟨ge, 2, none⟩ = some (.int .i64 2) ∧ wc.cell? ⟨ge, 3, none⟩ = some (.int .i64 2) ∧ wc.cell? ⟨ge, 4, none⟩ = some (.int .i64 0)))
  case rest =>
    obtain ⟨ge, cap, rfl, hcap, hge, hO, hE⟩ := hcut
    exact hKc _ _ (known_e w _ p ge cap hcap hge hO hE _ _ _ _ _ _ _ _ _ _ _ _ _ _ _ _ _ _ _ _ _ _ _ _ _ _ _ _ _ _ _ _ _ _ _ _ _ _ _ _ _ _ _ _ _ _ _ _ _ _ _ _ _ _ _ _ _ _ _ _ _ _ _ _ _ _ _ _ _ _ _ _ _ _ _ _ _ _ _ _ _ _ _ _ _ _ _ _ _ _ _ _ _ _ _ _ _ _ _ _ _ _ _ _ _ _ _ _ _ _ _ _ _ _ _ _ _ _ _ _ _ _ _ _ _ _ _ _ _ _ _ _ _ _ _ _ _ _ _ _ _ _ _ _ _ _ _ _ _ _ _ _ _ _ _ _ _ _ _ _ _ _ _ _ _ _ _ _ _ _ _ _ _ _ _ _ _ _ _ _ _ _ _ _ _ _ _ _ _ _ _ _ _ _ _ _ _ _ _ _ _ _ _ _ _ _ _ _ _ _ _ _ _ _ _ _ _ _ _ _ _ _ _ _ _ _ _ _ _ _ _ _ _ _ _ _ _ _ _ _ _ _ _ _ _ _ _ _ _ _ _ _ _ _ _ _ _ _ _ _ _ _ _ _ _ _ _ _ _ _ _ _ _ _ _ _ _ _ _ _ _ _ _ _ _ _ _ _ _ _ _ _ _ _ _ _ _ _ _ _ _ _ _ _ _ _ _ _ _ _ _ _ _ _ _ _ _ _ _ _ _ _ _ _ _ _ _ _ _ _ _ _ _ _ _ _ _ _ _ _ _ _ _ _ _ _ _ _ _ _ _ _ _ _ _ _ _ _ _ _ _ _ _ _ _ _ _ _ _ _ _ _ _ _ _ _ _ _ _ _ _ _ _ _ _ _ _ _ _ _ _)
  case first =>
  go_wp2_with fail
  go_loopw [7, 89] (fun v i wr => ∃ j : Nat, j ≤ 5 ∧ i = .int .i64 j ∧ Lkn w w1 p j wr ∧ Blk wr N 56 l10 ∧ wr.ownsRow (N + 1) 24 1 v j (es5.take j)) (fun _ i _ => 5 - (intOf i).toNat)
  case atStart => exact ⟨0, by omega, rfl, Or.inl ⟨by omega, B2.out⟩, Q2.out, World.ownsRow_nil _ _ _ _⟩
  case round =>
    clear B2 Q2
    obtain ⟨j, hj, rfl, hLp, hq, ho⟩ := hrel
    by_cases h5 : j < 5
    · have hB : Below w1.heap.size w1 wr := by
        rcases hLp with ⟨_, h⟩ | ⟨h, _⟩
        · exact h
        · omega
      obtain ⟨a, g, er, hq0, hq1, hes, hcase⟩ := ask j h5
      have HB : Hid (Below w1.heap.size w1 wr) := hB
      have HQ : Hid (Blk wr N 56 l10) := hq
      have HO : Hid (wr.ownsRow (N + 1) 24 1 u7 j (es5.take j)) := ho
      have HES : Hid (es5.take (j + 1) = es5.take j ++ [.int .i64 er]) := by
        unfold Hid
        rw [List.take_add_one, hes]
        rfl
      have d0 : wr.cell? ⟨N, j * 2, none⟩ = some (.int .i64 a) := (hq.cell _).trans hq0
      have d1 : wr.cell? ⟨N, j * 2 + 1, none⟩ = some (.int .i64 g) := (hq.cell _).trans hq1
      have hNlt := hq.lt
      have hsz := hB.size
      have CF : Hid (∀ W, Below w1.heap.size w1 W → Calls Try.prog 16 #[.pointer (some ⟨p, 0, none⟩), .int .i64 a, .int .i64 g] W fun e w' => e = .returned (.tuple #[.agg #[.int .i64 0, .int .i64 0, .int .i64 0, .bool false, .bool false, .bool false], .bool false, .int .i64 er]) ∧ Below W.heap.size W w') := fun W hW => by
        rcases hcase with ⟨rfl, _, hb⟩ | ⟨rfl, _, rfl, rfl⟩
        · exact Find_bad (CA.out.below hW) a g hb
        · exact Find_none (CA.out.below hW) 127 1048575 e_ok.1 e_ok.2 (by simp)
      have CP : Hid (∀ W, Below w1.heap.size w1 W → Calls Try.prog 24 #[.pointer (some ⟨p, 0, none⟩), .int .i64 a, .int .i64 g] W fun e w' => e = .returned (.tuple #[.agg #[.int .i64 0, .int .i64 0, .int .i64 0, .bool false, .bool false, .bool false], .bool false, .int .i64 er]) ∧ Below W.heap.size W w') := fun W hW => by
        rcases hcase with ⟨rfl, _, hb⟩ | ⟨rfl, _, rfl, rfl⟩
        · exact Peek_bad (CA.out.below hW) a g hb
        · exact Peek_none (CA.out.below hW) 127 1048575 e_ok.1 e_ok.2 (by simp)
      have CM : Hid (∀ W, Below w1.heap.size w1 W → Calls Try.prog 22 #[.pointer (some ⟨p, 0, none⟩), .int .i64 a, .int .i64 g] W fun e w' => e = .returned (.tuple #[.bool false, .int .i64 er]) ∧ Below W.heap.size W w') := fun W hW => by
        rcases hcase with ⟨rfl, _, hb⟩ | ⟨rfl, _, rfl, rfl⟩
        · exact Mark_bad (CA.out.below hW) a g hb
        · exact Mark_none (CA.out.below hW) 127 1048575 e_ok.1 e_ok.2 (by simp)
      have CR : Hid (∀ W, Below w1.heap.size w1 W → Calls Try.prog 19 #[.pointer (some ⟨p, 0, none⟩), .int .i64 a, .int .i64 g] W fun e w' => e = .returned (.tuple #[.bool false, .int .i64 er]) ∧ Below W.heap.size W w') := fun W hW => by
        rcases hcase with ⟨rfl, _, hb⟩ | ⟨rfl, _, rfl, rfl⟩
        · exact Drop_bad (CA.out.below hW) a g hb
        · exact Drop_none (CA.out.below hW) 127 1048575 e_ok.1 e_ok.2 (by simp)
      have CX : Hid (∀ W, Below w1.heap.size w1 W → Calls Try.prog 18 #[.pointer (some ⟨p, 0, none⟩), .agg #[.int .i64 a, .int .i64 g, .int .i64 0, .bool false, .bool false, .bool false]] W fun e w' => e = .returned (.int .i64 er) ∧ Fx w w1 p j W w') := fun W hW => by
        rcases hcase with ⟨rfl, h4, hb⟩ | ⟨rfl, h4, rfl, rfl⟩
        · refine (Fill_bad (CA.out.below hW) ⟨a, g, 0, false, false, false⟩ hb).mono ?_
          rintro e w' ⟨he, hb'⟩
          exact ⟨he, fx_bad h4 hW hb'⟩
        · have := Fill_ok (CA.out.below hW) ⟨127, 1048575, 0, false, false, false⟩
          rw [show filE ⟨127, 1048575, 0, false, false, false⟩ = 0 by simp [filE, okA, okP, okF], show filL 64 ⟨127, 1048575, 0, false, false, false⟩ [] = [e7] by simp [filL, fil, rm, okA, okP, okF, e7]] at this
          refine this.mono ?_
          rintro e w' ⟨he, hL⟩
          exact ⟨he, fx_ok h4 KA.out HF.out hW hL⟩
      have hne : (er != er) = false := by simp
      clear hcase hq0 hq1 hes hq ho hB hLp CA KA HF
      go_wp2_with fail
      have BX : Hid (Below wr.heap.size wr (wr.alloc (.cells #[.int .i64 a, .int .i64 g] 56))) := below_new _ _
      have X0 : Hid (Blk (wr.alloc (.cells #[.int .i64 a, .int .i64 g] 56)) wr.heap.size 56 [.int .i64 a, .int .i64 g]) := blk_new wr [.int .i64 a, .int .i64 g] 56
      generalize wr.alloc (.cells #[.int .i64 a, .int .i64 g] 56) = W3 at *
      have B3 : Hid (Below w1.heap.size w1 W3) := HB.out.trans (BX.out.mono hsz)
      have HO3 : Hid (W3.ownsRow (N + 1) 24 1 u7 j (es5.take j)) := row_of_eq HO.out (fun i hi => BX.out.block i (World.ownsRow.lt HO.out i hi).2)
      have HQ3 : Hid (Blk W3 N 56 l10) := HQ.out.below BX.out
      generalize wr.heap.size = bx at *
      have R4 : Hid (Rd w1 N j bx a g u7 W3) := ⟨B3.out, X0.out, HO3.out, HQ3.out⟩
      have hN1 : w1.heap.size = N := hN
      clear B3 X0 HO3 HQ3 HB HQ HO BX d0 d1 hNlt hsz
      refine (CF.out _ R4.out.b).mono ?_
      rintro e w4 ⟨rfl, hb4⟩
      have R5 : Hid (Rd w1 N j bx a g u7 w4) := R4.out.below hb4
      have y0 := R5.out.y0
      have y1 := R5.out.y1
      have hbl := R5.out.x.lt
      clear hb4 R4 CF
      go_wp2_with fail
      have R6 : Hid (Rd w1 N j bx a g u7 (w4.alloc (.cells #[.int .i64 0, .int .i64 0, .int .i64 0, .bool false, .bool false, .bool false] 32))) := R5.out.below (below_new _ _)
      clear R5 y0 y1 hbl
      generalize w4.alloc (.cells #[.int .i64 0, .int .i64 0, .int .i64 0, .bool false, .bool false, .bool false] 32) = W4 at *
      generalize w4.heap.size = b4 at *
      refine (CP.out _ R6.out.b).mono ?_
      rintro e w5 ⟨rfl, hb5⟩
      have R7 : Hid (Rd w1 N j bx a g u7 w5) := R6.out.below hb5
      have y0 := R7.out.y0
      have y1 := R7.out.y1
      have hbl := R7.out.x.lt
      clear hb5 R6 CP
      go_wp2_with fail
      have R8 : Hid (Rd w1 N j bx a g u7 (w5.alloc (.cells #[.int .i64 0, .int .i64 0, .int .i64 0, .bool false, .bool false, .bool false] 32))) := R7.out.below (below_new _ _)
      clear R7 y0 y1 hbl
      generalize w5.alloc (.cells #[.int .i64 0, .int .i64 0, .int .i64 0, .bool false, .bool false, .bool false] 32) = W5 at *
      generalize w5.heap.size = b5 at *
      refine (CM.out _ R8.out.b).mono ?_
      rintro e w6 ⟨rfl, hb6⟩
      have R9 : Hid (Rd w1 N j bx a g u7 w6) := R8.out.below hb6
      have y0 := R9.out.y0
      have y1 := R9.out.y1
      clear hb6 R8 CM
      go_wp2_with fail
      refine (CR.out _ R9.out.b).mono ?_
      rintro e w7 ⟨rfl, hb7⟩
      have R10 : Hid (Rd w1 N j bx a g u7 w7) := R9.out.below hb7
      clear y0 y1
      have y0 := R10.out.y0
      have y1 := R10.out.y1
      clear hb7 R9 CR
      go_wp2_with fail
      refine (CX.out _ R10.out.b).mono ?_
      rintro e w9 ⟨rfl, fx⟩
      have FX : Hid (Fx w w1 p j w7 w9) := fx
      have HO9 : Hid (w9.ownsRow (N + 1) 24 1 u7 j (es5.take j)) := row_of_eq R10.out.o (fun i hi => fx.block i (by have := (R10.out.o.lt i hi).1; omega) (R10.out.o.lt i hi).2)
      have HQ9 : Hid (Blk w9 N 56 l10) := R10.out.q.of_eq (fx.block N (by omega) R10.out.q.lt)
      have HLT : Hid (∀ k, u7.ownBlock = some k → N + 1 ≤ k ∧ k < w7.heap.size) := R10.out.o.lt
      have hN9 : N < w9.heap.size := HQ9.out.lt
      have HNN : Hid (∀ j u, ([.int .i64 er] : List Value)[j]? = some u → (w9.alloc (.cells #[.int .i64 er] 24)).cell? ((⟨w9.heap.size, 0, none⟩ : Addr).add j) = some u) := one_cell w9 er
      have HT : Hid (∀ v ∈ ([.int .i64 er] : List Value), v.oneCell' = true) := by simp [Hid, Value.oneCell']
      clear y0 y1 fx R10 CX
      go_wp2_with (at_builtin; refine wpList_append_lies _ rfl (.tmp 156) (.tmp 158) 55 rfl (N + 1) 24 i0 _ 1 8 Try.underlying55 hi0 hz0 hz1 hz2 rfl (by decide) _ j (es5.take j) rfl (World.ownsRow.alloc HO9.out _) ⟨w9.heap.size, 0, none⟩ 1 1 [.int .i64 er] rfl rfl HNN.out HT.out (by omega) (by unfold maxLen; omega) (by omega) (by simp; omega) (w9.heap.size + 1) (by simp) ?_; intro g3 cap3 w10 o3 gr3 at3 lt3)
      go_roundw
      case rel =>
        refine ⟨j + 1, by omega, by go_num, FX.out.then' w10 u7.ownBlock ((World.grownBy_alloc w9 _ _).trans gr3) (fun k hk => ?_), ?_, ?_⟩
        · have := HLT.out k hk
          exact ⟨by omega, Or.inl this.2⟩
        · exact (HQ9.out.below (below_new _ _)).of_eq (gr3.block N (by simp; omega) (fun e => by have := (HLT.out N e.symm).1; omega))
        · rw [HES.out]
          exact o3
      case measure => simp [intOf]; omega
    · obtain rfl : j = 5 := by omega
      have hO : On (fun k => k < w.heap.size) w wr p 64 [e7] := by
        rcases hLp with ⟨h, _⟩ | ⟨_, h⟩
        · omega
        · exact h
      obtain ⟨ge, cap, hv⟩ : ∃ ge cap, u7 = .slice (some ⟨ge, 0, none⟩) 5 cap := by
        rcases ho.2 with ⟨_, h⟩ | ⟨ge, cap, _, h, _⟩
        · omega
        · exact ⟨ge, cap, h⟩
      subst hv
      have hcap : 5 ≤ cap ∧ cap ≤ 9223372036854775807 := by
        rcases ho.2 with ⟨_, h⟩ | ⟨ge', cap', _, h, _, _, h1, h2, _⟩
        · omega
        · cases h
          unfold maxLen at h2
          exact ⟨h1, by omega⟩
      have HR : Hid (On (fun k => k < w.heap.size) w wr p 64 [e7]) := hO
      have HG : Hid (ge < wr.heap.size) := (ho.lt ge rfl).2
      have HE : Hid (wr.cell? ⟨ge, 0, none⟩ = some (.int .i64 2) ∧ wr.cell? ⟨ge, 1, none⟩ = some (.int .i64 2) ∧ wr.cell? ⟨ge, 2, none⟩ = some (.int .i64 2) ∧ wr.cell? ⟨ge, 3, none⟩ = some (.int .i64 2) ∧ wr.cell? ⟨ge, 4, none⟩ = some (.int .i64 0)) := ⟨ho.cellAt 0 (by omega), ho.cellAt 1 (by omega), ho.cellAt 2 (by omega), ho.cellAt 3 (by omega), ho.cellAt 4 (by omega)⟩
      have HCAP : Hid (5 ≤ cap ∧ cap ≤ 9223372036854775807) := hcap
      clear hcap hO hLp hq ho
      go_wp2_with fail
      go_meet
      case rel => exact ⟨ge, cap, rfl, HCAP.out, HG.out, HR.out, HE.out⟩
end Go.Proofs.Ytkgmdalekakgpaa
