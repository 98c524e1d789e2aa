/- VmaTells walked: Find, Pages, Spans answer as the document's; no condition but the size of what can be handed in. -/
import Derived.Test.YtmhfgfgiiinpjaaXm
import Derived.Test.YtmhfgfgiiinpjaaXg
import Derived.Test.YtmhfgfgiiinpjaaWn
namespace Go.Proofs.Ytmhfgfgiiinpjaa.V
open Go.ChangeShapes Go.WideShapes Go.ChangeAt Go.RowKit
set_option linter.unusedVariables false
set_option maxRecDepth 8192

theorem Rn.head5 {w : World} {g : Nat} {l : List Rg} (h : Rn w (some ⟨g, 0, none⟩) (l ++ sp5)) : Rn w (some ⟨g, 0, none⟩) l := by
  have := h.take l.length
  rwa [List.take_left] at this
theorem eq_run2 (p n p' n' : Int) (W : World) : (binOp .eql 31 (.agg #[.int .i64 p, .int .i64 n]) (.agg #[.int .i64 p', .int .i64 n'])).run Try.prog W = .ok (.bool (decide (p = p' ∧ n = n'))) W := by
  simp only [run_eql_struct]
  rw [run_equalIn_agg W 9999 31 _ _ (by kernel_rfl) Try.stoodInHeld31]
  simp [go_sem, Program.fieldsOf, Try.underlying31]
  by_cases h1 : p = p'
  · by_cases h2 : n = n'
    · simp [h1, h2]
    · simp [h1, h2]
  · simp [h1]
theorem ne_run2 (p n : Int) (W : World) : (binOp .neq 31 (.agg #[.int .i64 p, .int .i64 n]) (.agg #[.int .i64 p, .int .i64 n])).run Try.prog W = .ok (.bool false) W := by
  have h := eq_run2 p n p n W
  simp only [run_eql_struct] at h
  simp only [run_neq_struct]
  cases hr : (Op.equalIn 10000 31 (.agg #[.int .i64 p, .int .i64 n]) (.agg #[.int .i64 p, .int .i64 n])).run Try.prog W with
  | ok b w2 =>
    rw [hr] at h
    simp [Result.andThen] at h ⊢
    exact h
  | halt x w2 =>
    rw [hr] at h
    simp [Result.andThen] at h
theorem Sw.as {w : World} {B : Nat} {v : Value} {n : Nat} {l : List Rg} (h : Sw w B v n l) : ∃ a c, v = .slice a n c := by
  rcases h.form with ⟨rfl, rfl⟩ | ⟨g, c, rfl, _⟩
  · exact ⟨_, _, rfl⟩
  · exact ⟨_, _, rfl⟩
/-- Where the loop over both rows of spans stands. -/
structure Tl (W0 : World) (ax ay : Option Addr) (n : Nat) (S : List Rg) (k : Nat) (W : World) : Prop where
  be : Below W0.heap.size W0 W
  ro : n = 0 ∨ ∃ gx gy, ax = some ⟨gx, 0, none⟩ ∧ ay = some ⟨gy, 0, none⟩ ∧ W0.heap.size ≤ gx ∧ gx ≠ gy ∧ (∀ j, j < n * 2 → (W.cell? ⟨gx, j, none⟩).isSome = true ∧ W.frozen? ⟨gx, j, none⟩ = false) ∧ ∀ j (hj : j < S.length), j < n → (k ≤ j → W.cell? ⟨gx, j * 2, none⟩ = some (.int .i64 S[j].p) ∧ W.cell? ⟨gx, j * 2 + 1, none⟩ = some (.int .i64 S[j].n)) ∧ W.cell? ⟨gy, j * 2, none⟩ = some (.int .i64 S[j].p) ∧ W.cell? ⟨gy, j * 2 + 1, none⟩ = some (.int .i64 S[j].n)
theorem Tl.set {W0 : World} {gx : Nat} {ay : Option Addr} {n : Nat} {S : List Rg} {k : Nat} {W : World} (h : Tl W0 (some ⟨gx, 0, none⟩) ay n S k W) (hk : k < n) (u v : Value) : Tl W0 (some ⟨gx, 0, none⟩) ay n S (k + 1) (W.setCells gx (k * 2) [u, v]) := by
  rcases h.ro with h0 | ⟨gx', gy, e1, e2, hg, hne, ht, hc⟩
  · omega
  cases e1
  have hw : W0.heap.size ≤ gx := hg
  refine ⟨(h.be.setCell hw _).setCell hw _, Or.inr ⟨gx, gy, rfl, e2, hg, hne, fun j hj => ⟨World.isSome_setCells _ _ _ _ _ (ht j hj).1, by rw [World.frozen?_setCells]; exact (ht j hj).2⟩, fun j hj hjn => ⟨fun hkj => ⟨?_, ?_⟩, ?_, ?_⟩⟩⟩
  · rw [World.cell?_setCells_out _ _ _ _ _ (fun _ _ => by simp; omega)]
    exact ((hc j hj hjn).1 (by omega)).1
  · rw [World.cell?_setCells_out _ _ _ _ _ (fun _ _ => by simp; omega)]
    exact ((hc j hj hjn).1 (by omega)).2
  · rw [World.cell?_setCells_out _ _ _ _ _ (fun q _ => absurd q.symm hne)]
    exact (hc j hj hjn).2.1
  · rw [World.cell?_setCells_out _ _ _ _ _ (fun q _ => absurd q.symm hne)]
    exact (hc j hj hjn).2.2
theorem Tl.drew {W0 W : World} {ax ay : Option Addr} {n : Nat} {S : List Rg} {k : Nat} (h : Tl W0 ax ay n S k W) (q : Nat) : Tl W0 ax ay n S k (W.drewN q) := ⟨bdn h.be q, h.ro⟩
set_option maxHeartbeats 4000000 in
theorem tells_any {w : World} {ao : Option Addr} {cap : Nat} {l : List Rg} (h : Ri w ao cap l) (hl : l.length * 24 ≤ 140737488351232) (x : Int) :
    Calls Try.prog 4 #[.slice ao l.length cap, .int .i64 x] w fun e w' => e = .returned (.bool true) ∧ Below w.heap.size w w' := by
  have CW : Hid (∀ W, Calls Try.prog 21 #[] W fun e w' => e = .returned (.bool true) ∧ Below W.heap.size W w') := works_ok
  have HL : Hid (∀ W, Below w.heap.size w W → Ri W ao cap l) := fun W hW => h.below hW
  have hwf : Hid (∀ r ∈ l, wfR r) := h.wf
  have CSp : Hid (Calls Try.prog 9 #[.slice ao l.length cap] w fun e w' => ∃ g c, e = .returned (.slice (some ⟨g, 0, none⟩) l.length c) ∧ Rn w' (some ⟨g, 0, none⟩) (l ++ sp5) ∧ l.length + 5 ≤ c ∧ Below w.heap.size w w') := spare_ok h.rn hl
  have CK : Hid (∀ W g c, Rn W (some ⟨g, 0, none⟩) (l ++ sp5) → l.length + 5 ≤ c → Rn W ao l → Calls Try.prog 20 #[.slice (some ⟨g, 0, none⟩) l.length c, .slice ao l.length cap] W fun e w' => e = .returned (.bool true) ∧ Below W.heap.size W w') := fun W g c h1 h2 h3 => kept_ok h1 h2 h3 (by omega)
  have CF : Hid (∀ W b c, Ri W b c l → Calls Try.prog 22 #[.slice b l.length c, .int .i64 x] W (Fn3 W (fiV l x))) := fun W b c hk => Find_ok hk x
  have CFr : Hid (∀ W b c, Ri W b c l → Calls Try.prog 23 #[.slice b l.length c, .int .i64 x] W (Fn3 W (fiV l x))) := fun W b c hk => Find_r hk x
  have CPg : Hid (∀ W b c, Ri W b c l → Calls Try.prog 24 #[.slice b l.length c] W fun e w' => e = .returned (.tuple #[.int .i64 (if chk l = 0 then tot l else 0), .int .i64 (chk l)]) ∧ Below W.heap.size W w') := fun W b c hk => Pages_ok hk
  have CPgr : Hid (∀ W b c, Ri W b c l → Calls Try.prog 25 #[.slice b l.length c] W fun e w' => e = .returned (.tuple #[.int .i64 (if chk l = 0 then tot l else 0), .int .i64 (chk l)]) ∧ Below W.heap.size W w') := fun W b c hk => Pages_r hk
  have CS : Hid (∀ W b c, Ri W b c l → Calls Try.prog 26 #[.slice b l.length c] W (Sa W l)) := fun W b c hk => Spans_ok hk
  have CSr : Hid (∀ W b c, Ri W b c l → Calls Try.prog 27 #[.slice b l.length c] W (Sa W l)) := fun W b c hk => Spans_r hk
  have hsl : (spV l).length ≤ 1024 := by
    unfold spV
    split
    · rename_i q; exact (chk_may.1 q).1
    · exact Nat.zero_le _
  clear h hl
  generalize (if chk l = 0 then tot l else 0) = tt at *
  obtain ⟨⟨⟨fp, fn, fm⟩, fb, fe⟩, hfi⟩ : ∃ a, fiV l x = a := ⟨_, rfl⟩
  rw [hfi] at CF CFr
  clear hfi
  go_enter Try.func4, Try.ntmps4
  go_wp2_with fail
  refine CSp.out.mono ?_
  rintro e w1 ⟨g, c, rfl, r1, hc5, b1⟩
  have HX1 : Hid (∀ W, Below w1.heap.size w1 W → Rn W (some ⟨g, 0, none⟩) (l ++ sp5)) := fun W q => r1.below q
  have HI : Hid (∀ W, Below w1.heap.size w1 W → Ri W (some ⟨g, 0, none⟩) c l) := fun W q => ⟨(r1.below q).head5, by omega, hwf.out⟩
  have HB1 : Hid (Below w.heap.size w w1) := b1
  clear r1 b1
  go_wp2_with fail
  refine (CF.out _ _ _ (HI.out _ (Below.refl _ _))).mono ?_
  rintro e w2 ⟨rfl, b2⟩
  have HB2 : Hid (Below w1.heap.size w1 w2) := b2
  unfold rv
  clear b2
  go_wp2_with fail
  refine (CFr.out _ _ _ (HL.out _ (bs HB1.out (bs HB2.out (below1 _ _))))).mono ?_
  rintro e w3 ⟨rfl, b3⟩
  have HB3 : Hid (Below w1.heap.size w1 w3) := bs (bs HB2.out (below1 _ _)) b3
  have za (i) := cell_at w2 #[.int .i64 fp, .int .i64 fn, .int .u8 fm] 29 b3 i
  have HZ3 : Hid (∀ W, Below w3.heap.size w3 W → W.cell? ⟨w2.heap.size, 0, none⟩ = some (.int .i64 fp) ∧ W.cell? ⟨w2.heap.size, 1, none⟩ = some (.int .i64 fn) ∧ W.cell? ⟨w2.heap.size, 2, none⟩ = some (.int .u8 fm)) := fun W q => ⟨(q.cell (World.block_lt_of_cell? w3 _ (za 0))).trans (za 0), (q.cell (World.block_lt_of_cell? w3 _ (za 1))).trans (za 1), (q.cell (World.block_lt_of_cell? w3 _ (za 2))).trans (za 2)⟩
  unfold rv
  clear b3 za
  go_wp2_with fail
  refine (CPg.out _ _ _ (HI.out _ (bs HB3.out (below1 _ _)))).mono ?_
  rintro e w4 ⟨rfl, b4⟩
  have HB4 : Hid (Below w1.heap.size w1 w4) := bs (bs HB3.out (below1 _ _)) b4
  have zb (i) := cell_at w3 #[.int .i64 fp, .int .i64 fn, .int .u8 fm] 29 b4 i
  have HZ4 : Hid (∀ W, Below w4.heap.size w4 W → (W.cell? ⟨w2.heap.size, 0, none⟩ = some (.int .i64 fp) ∧ W.cell? ⟨w2.heap.size, 1, none⟩ = some (.int .i64 fn) ∧ W.cell? ⟨w2.heap.size, 2, none⟩ = some (.int .u8 fm)) ∧ W.cell? ⟨w3.heap.size, 0, none⟩ = some (.int .i64 fp) ∧ W.cell? ⟨w3.heap.size, 1, none⟩ = some (.int .i64 fn) ∧ W.cell? ⟨w3.heap.size, 2, none⟩ = some (.int .u8 fm)) := fun W q => ⟨HZ3.out W (bs (bs (below1 _ _) b4) q), (q.cell (World.block_lt_of_cell? w4 _ (zb 0))).trans (zb 0), (q.cell (World.block_lt_of_cell? w4 _ (zb 1))).trans (zb 1), (q.cell (World.block_lt_of_cell? w4 _ (zb 2))).trans (zb 2)⟩
  clear b4 zb HZ3
  go_wp2_with fail
  refine (CPgr.out _ _ _ (HL.out _ (bs HB1.out HB4.out))).mono ?_
  rintro e w5 ⟨rfl, b5⟩
  have HB5 : Hid (Below w1.heap.size w1 w5) := bs HB4.out b5
  have HZ5 : Hid (∀ W, Below w5.heap.size w5 W → (W.cell? ⟨w2.heap.size, 0, none⟩ = some (.int .i64 fp) ∧ W.cell? ⟨w2.heap.size, 1, none⟩ = some (.int .i64 fn) ∧ W.cell? ⟨w2.heap.size, 2, none⟩ = some (.int .u8 fm)) ∧ W.cell? ⟨w3.heap.size, 0, none⟩ = some (.int .i64 fp) ∧ W.cell? ⟨w3.heap.size, 1, none⟩ = some (.int .i64 fn) ∧ W.cell? ⟨w3.heap.size, 2, none⟩ = some (.int .u8 fm)) := fun W q => HZ4.out W (bs b5 q)
  clear b5 HZ4
  go_wp2_with fail
  refine (CS.out _ _ _ (HI.out _ HB5.out)).mono ?_
  rintro e w6 ⟨v6, rfl, s6, b6⟩
  obtain ⟨ax, cx, rfl⟩ := s6.as
  have HS6 : Hid (∀ W, Below w6.heap.size w6 W → Sw W w5.heap.size (.slice ax (spV l).length cx) (spV l).length (spV l)) := fun W q => s6.below q
  have HB6 : Hid (Below w5.heap.size w5 w6) := b6
  clear s6 b6
  go_wp2_with fail
  refine (CSr.out _ _ _ (HL.out _ (bs HB1.out (bs HB5.out HB6.out)))).mono ?_
  rintro e w7 ⟨v7, rfl, s7, b7⟩
  obtain ⟨ay, cy, rfl⟩ := s7.as
  have HB7 : Hid (Below w5.heap.size w5 w7) := bs HB6.out b7
  have HT : Hid (Tl w5 ax ay (spV l).length (spV l) 0 w7) := by
    refine ⟨HB7.out, ?_⟩
    rcases (HS6.out w6 (Below.refl _ _)).form with ⟨e, h0⟩ | ⟨gx, c1, e, hg, hlt, _⟩
    · exact Or.inl h0
    · cases e
      rcases (HS6.out w7 b7).form with ⟨e, h0⟩ | ⟨gx', c1', e, _, _, ht, hc⟩
      · exact Or.inl h0
      · cases e
        rcases s7.form with ⟨e, h0⟩ | ⟨gy, c2, e, hg2, _, _, hd⟩
        · exact Or.inl h0
        · cases e
          exact Or.inr ⟨gx, gy, rfl, rfl, hg, by omega, ht, fun j hj hjn => ⟨fun _ => hc j hj hjn, hd j hj hjn⟩⟩
  have hz := HZ5.out w7 HB7.out
  obtain ⟨⟨z0, z1, z2⟩, y0, y1, y2⟩ := hz
  have hq := ne_run ⟨fp, fn, fm⟩ ⟨fp, fn, fm⟩
  rw [decide_eq_true rfl, Bool.not_true] at hq
  unfold rv at hq
  simp only at hq
  obtain ⟨n, hn⟩ : ∃ n, (spV l).length = n := ⟨_, rfl⟩
  rw [hn] at hsl HT ⊢
  have HN : Hid ((spV l).length = n) := hn
  clear s7 b7 HS6 HB6 hn CS CSr CPg CPgr CF CFr CSp
  generalize spV l = S at *
  cases fb
  all_goals
    go_wp2_with fail
    go_loopw [20] (fun i wr => ∃ k : Nat, k ≤ n ∧ i = .int .i64 k ∧ Hid (Tl w5 ax ay n S k wr)) (fun i _ => n - (iv i).toNat)
    case atStart => exact ⟨0, by omega, rfl, HT.out⟩
    case round =>
      obtain ⟨k, hk, rfl, HR⟩ := hrel
      have ix1 : (0 : Int) ≤ (k : Int) := Int.natCast_nonneg k
      clear z0 z1 z2 y0 y1 y2 hq
      by_cases hlt : k < n
      case neg =>
        obtain rfl : k = n := by omega
        have HBr : Hid (Below w1.heap.size w1 wr) := bs HB5.out HR.out.be
        go_wp2_with fail
        refine (CK.out _ _ _ (HX1.out _ HBr.out) hc5 (HL.out _ (bs HB1.out HBr.out)).rn).mono ?_
        rintro e w8 ⟨rfl, b8⟩
        have HB8 : Hid (Below w1.heap.size w1 w8) := bs HBr.out b8
        clear b8
        go_wp2_with fail
        refine (CW.out _).mono ?_
        rintro e w9 ⟨rfl, b9⟩
        have HB9 : Hid (Below w.heap.size w w9) := bs HB1.out (bs HB8.out b9)
        clear b9
        go_wp2
        go_ret
        exact ⟨rfl, HB9.out⟩
      case pos =>
        have ix2 : (k : Int) < (n : Int) := Int.ofNat_lt.2 hlt
        rcases HR.out.ro with h0 | ⟨gx, gy, rfl, rfl, hg, hne, ht, hc⟩
        · omega
        have hcell := hc k (by rw [HN.out]; exact hlt) hlt
        obtain ⟨x0, x1⟩ := hcell.1 (Nat.le_refl _)
        obtain ⟨y0, y1⟩ := hcell.2
        have HTh : Hid (∀ q, (wr.drewN q).there gx (k * 2) (#[.int .i64 (-1), .int .i64 0] : Array Value).size) := fun q j hj => ht (k * 2 + j) (by simp at hj; omega)
        have HNx : Hid (∀ q, Tl w5 (some ⟨gx, 0, none⟩) (some ⟨gy, 0, none⟩) n S (k + 1) ((wr.drewN q).setCells gx (k * 2) [.int .i64 (-1), .int .i64 0])) := fun q => (HR.out.drew q).set hlt _ _
        have HZ : Hid ((#[.int .i64 (-1), .int .i64 0] : Array Value).all (·.oneCell') = true) := by unfold Hid; simp [Value.oneCell']
        clear hcell hc ht
        generalize S[k]'(by rw [HN.out]; exact hlt) = r at *
        obtain ⟨p, m, u⟩ := r
        simp only at x0 x1 y0 y1
        have hq2 := ne_run2 p m
        go_wp2_with fail
        go_quiet (fail)
        clear x0 x1 y0 y1 hq2
        go_wp2_with (refine wpList_store_mid rfl 31 (.tmp 110) (.tmp 109) rfl gx (k * 2) #[.int .i64 (-1), .int .i64 0] rfl rfl (HTh.out _) Try.sizeSp HZ.out ?_)
        go_roundw
        case rel => exact ⟨k + 1, by omega, by go_num, HNx.out _⟩
        case measure => simp [iv]; omega
end Go.Proofs.Ytmhfgfgiiinpjaa.V
