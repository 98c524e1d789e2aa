/- The law CyclesFixed walked: each slice begins where it must. -/
import Derived.Test.YtbaonclncfjneaaOp
namespace Go.Proofs.Ytbaonclncfjneaa
open Go.ChangeShapes Go.WideShapes Go.ChangeAt Go.RowKit Go.Deep
set_option linter.unusedVariables false

/-- One counter, and nothing old turned. -/
structure One (w0 w : World) (p : Nat) (s d n q : Int) : Prop where
  a : Ctr 58 w p s d n q
  o : Ok s d n q
  lp : w0.heap.size ≤ p
  bel : Below w0.heap.size w0 w
theorem One.drew {w0 w : World} {p : Nat} {s d n q : Int} (h : One w0 w p s d n q) (m : Nat) : One w0 (w.drewN m) p s d n q := ⟨h.a, h.o, h.lp, below_drewN h.bel m⟩
theorem One.turn {w0 w w' : World} {p : Nat} {s d n q n' q' er : Int} {e : Ending} (h : One w0 w p s d n q) (t : Trn 58 w p s d n' q' er e w') (o' : Ok s d n' q') : One w0 w' p s d n' q' :=
  ⟨t.2.1, o', h.lp, h.bel.grown t.2.2 h.bel.size (fun j hj => by injection hj with hj; rw [← hj]; exact h.lp)⟩
/-- What a call leaves that tells a number. -/
def Tls (w0 : World) (p : Nat) (s d n q v : Int) (e : Ending) (w' : World) : Prop := e = .returned (.int .u64 v) ∧ One w0 w' p s d n q
theorem One.now {w0 w : World} {p : Nat} {s d n q v : Int} (h : One w0 w p s d n q) (hv : nw s d n q = v) : Calls Try.prog 10 #[.pointer (some ⟨p, 0, none⟩)] w (Tls w0 p s d n q v) := by
  refine (Now_any h.a h.o).mono ?_
  rintro e w' ⟨rfl, m, rfl⟩
  exact ⟨by rw [hv], h.drew m⟩
theorem One.left {w0 w : World} {p : Nat} {s d n q v : Int} (h : One w0 w p s d n q) (hn : n < 1099511627776) (hv : s - q = v) : Calls Try.prog 13 #[.pointer (some ⟨p, 0, none⟩)] w (Tls w0 p s d n q v) := by
  refine (Left_any h.a h.o).mono ?_
  rintro e w' ⟨rfl, m, rfl⟩
  exact ⟨by rw [← hv, lf, if_neg (by omega)], h.drew m⟩
theorem One.number {w0 w : World} {p : Nat} {s d n q : Int} (h : One w0 w p s d n q) : Calls Try.prog 12 #[.pointer (some ⟨p, 0, none⟩)] w (Tls w0 p s d n q n) := by
  refine (Number_any h.a h.o.s1).mono ?_
  rintro e w' ⟨rfl, rfl⟩
  exact ⟨rfl, h⟩
/-- What a call leaves that turns the counter. -/
def Trs (w0 : World) (p : Nat) (s d n q er : Int) (e : Ending) (w' : World) : Prop := e = .returned (.int .i64 er) ∧ One w0 w' p s d n q
theorem One.spend_ok {w0 w : World} {p : Nat} {s d n q x : Int} (h : One w0 w p s d n q) (hn : n < 1099511627776) (h0 : 0 ≤ x) (hx : x ≤ s - q) : Calls Try.prog 16 #[.pointer (some ⟨p, 0, none⟩), .int .u64 x] w (Trs w0 p s d n (q + x) 0) := by
  have hl : lf s n q = s - q := by rw [lf, if_neg (by omega)]
  refine (Spend_ok h.a h.o x h0 (by omega)).mono ?_
  intro e w' hT
  exact ⟨hT.1, h.turn hT ⟨h.o.s1, h.o.s2, h.o.d1, h.o.d2, h.o.n1, h.o.n2, by have := h.o.q1; omega, by omega, by omega⟩⟩
theorem One.spend_no {w0 w : World} {p : Nat} {s d n q x : Int} (h : One w0 w p s d n q) (hn : n < 1099511627776) (hx : ¬ x ≤ s - q) : Calls Try.prog 16 #[.pointer (some ⟨p, 0, none⟩), .int .u64 x] w (Trs w0 p s d n q 50) := by
  have hl : lf s n q = s - q := by rw [lf, if_neg (by omega)]
  refine (Spend_no h.a h.o x (by omega)).mono ?_
  intro e w' hT
  exact ⟨hT.1, h.turn hT h.o⟩
theorem One.switch {w0 w : World} {p : Nat} {s d n q x : Int} (h : One w0 w p s d n q) (hn : n < 1099511627776) (hx : x ≤ d) : Calls Try.prog 18 #[.pointer (some ⟨p, 0, none⟩), .int .u64 x] w (Trs w0 p s d (n + 1) 0 0) := by
  refine (Switch_ok h.a h.o x (by omega) (by omega)).mono ?_
  intro e w' hT
  exact ⟨hT.1, h.turn hT ⟨h.o.s1, h.o.s2, h.o.d1, h.o.d2, by have := h.o.n1; omega, by omega, by omega, by have := h.o.s1; omega, fun _ => rfl⟩⟩
theorem Begin_ok (k s d : Int) (k0 : 0 ≤ k) (k1 : k ≤ 1099511627776) (s1 : 1 ≤ s) (s2 : s ≤ 4194304) (d0 : 0 ≤ d) (d1 : d ≤ 4194304) (w : World) :
    Calls Try.prog 20 #[.int .u64 k, .int .u64 s, .int .u64 d] w fun e w' => e = .returned (.tuple #[.int .u64 (k * (s + d)), .int .i64 0]) ∧ w' = w := by
  have hm : may s d = true := by simp [may]; omega
  have h := Begin_any k s d k0 d0 w
  have e1 : begV k s d = k * (s + d) := by
    unfold begV
    rw [if_neg (by omega), if_neg (by simp [hm])]
  have e2 : begE k s d = 0 := by
    unfold begE
    rw [if_neg (by omega), if_neg (by simp [hm])]
  rw [e1, e2] at h
  exact h
set_option maxRecDepth 100000 in
set_option maxHeartbeats 4000000 in
theorem fixed_walk (w : World) (a b c : Int) (a0 : 0 ≤ a) (a1 : a < 18446744073709551616) (b0 : 0 ≤ b) (b1 : b < 18446744073709551616) (c0 : 0 ≤ c) (c1 : c < 18446744073709551616) (sa : Option Addr) (sl sc : Nat) (sf : Nat → Int) (da : Option Addr) (dl dc : Nat) (df : Nat → Int) (hsl : sl ≤ maxLen) (hdl : dl ≤ maxLen)
    (hs : Arg .u64 w sa sl sf) (hd : Arg .u64 w da dl df) (hsb : ∀ i, i < sl → 0 ≤ sf i ∧ sf i < 18446744073709551616) (hdb : ∀ i, i < dl → 0 ≤ df i ∧ df i < 18446744073709551616) :
    Calls Try.prog 5 #[.agg #[.int .u64 a, .int .u64 b, .int .u64 c], .slice sa sl sc, .slice da dl dc] w fun e w' => e = .returned (.bool true) ∧ Below w.heap.size w w' := by
  unfold maxLen at hsl hdl
  have HS : Hid (Arg .u64 w sa sl sf) := hs
  have HD : Hid (Arg .u64 w da dl df) := hd
  have HSB : Hid (∀ i, i < sl → 0 ≤ sf i ∧ sf i < 18446744073709551616) := hsb
  have HDB : Hid (∀ i, i < dl → 0 ≤ df i ∧ df i < 18446744073709551616) := hdb
  have BX : Hid (Blk (w.alloc (.cells #[.int .u64 a, .int .u64 b, .int .u64 c] 23)) w.heap.size 23 [.int .u64 a, .int .u64 b, .int .u64 c]) := blk_new _ [.int .u64 a, .int .u64 b, .int .u64 c] 23
  have B1 : Hid (Below w.heap.size w (w.alloc (.cells #[.int .u64 a, .int .u64 b, .int .u64 c] 23))) := (Below.refl _ _).grown (World.grownBy_alloc _ _ none) (Nat.le_refl _) (by simp)
  have eA : a.tmod 4194304 = a % 4194304 := Int.tmod_eq_emod_of_nonneg a0
  have eB : b.tmod 4194305 = b % 4194305 := Int.tmod_eq_emod_of_nonneg b0
  have eC : c.tmod 1099511626776 = c % 1099511626776 := Int.tmod_eq_emod_of_nonneg c0
  clear hs hd hsb hdb
  have b2 : 0 ≤ a % 4194304 ∧ a % 4194304 < 4194304 := by omega
  have b3 : 0 ≤ b % 4194305 ∧ b % 4194305 < 4194305 := by omega
  have b4 : 0 ≤ c % 1099511626776 ∧ c % 1099511626776 < 1099511626776 := by omega
  generalize a % 4194304 = S0 at *
  generalize b % 4194305 = D at *
  generalize c % 1099511626776 = F at *
  go_enter Try.func5, Try.ntmps5
  go_wp2_with fail
  refine (awake_any _).mono ?_
  rintro e w1 ⟨rfl, hb⟩
  have BX1 := Blk.of_eq BX.out (hb.block _ BX.out.lt)
  have B2 : Hid (Below w.heap.size w w1) := B1.out.trans (hb.mono B1.out.size)
  have x0 := BX1.cell 0
  have x1 := BX1.cell 1
  have x2 := BX1.cell 2
  simp only [List.getElem?_cons_zero, List.getElem?_cons_succ] at x0 x1 x2
  clear hb BX BX1 B1
  go_wp2_with fail
  go_quiet (fail)
  have B3 : Hid (Below w.heap.size w (w1.drewN nq)) := below_drewN B2.out nq
  clear B2 x0 x1 x2 eA eB eC a0 a1 b0 b1 c0 c1
  generalize w1.drewN nq = w2 at *
  have s1 : 1 ≤ 1 + S0 := by omega
  have s2 : 1 + S0 ≤ 4194304 := by omega
  clear b2
  generalize 1 + S0 = S at *
  have hE : newE S D F = 0 := newE_of s1 s2 (by omega) (by omega)
  have CN : Hid (Calls Try.prog 7 #[.int .u64 S, .int .u64 D, .int .u64 F] w2 (Nw 58 S D F w2)) := New_ok S D F hE w2
  have HO : Hid (Ok S D F 0) := newE_ok hE (by omega) (by omega)
  clear hE
  go_wp2_with fail
  refine CN.out.mono ?_
  rintro e w3 ⟨p, rfl, hC, hG, hp⟩
  have O3 : Hid (One w w3 p S D (F + ((0 : Nat) : Int)) 0) := by
    rw [show F + ((0 : Nat) : Int) = F by omega]
    exact ⟨hC, HO.out, Nat.le_trans B3.out.size hp, B3.out.grown hG B3.out.size (by simp)⟩
  clear hC hG hp HO CN B3
  go_wp2_with fail
  go_loopw [11, 12, 13] (fun e la i wr => ∃ k : Nat, k ≤ dl ∧ k ≤ 200 ∧ i = .int .i64 k ∧ ∃ z La, e = .int .i64 z ∧ la = .int .u64 La ∧ 0 ≤ La ∧ La ≤ (F + (k : Int)) * (S + D) ∧ One w wr p S D (F + (k : Int)) 0) (fun _ _ i _ => 200 - (intOf i).toNat)
  case atStart => exact ⟨0, by omega, by omega, rfl, _, _, rfl, rfl, by omega, by have := prod_le (F + ((0 : Nat) : Int)) (S + D) (by omega) (by omega) (by omega) (by omega); omega, O3.out⟩
  case round =>
    clear O3
    obtain ⟨k, hk, hk2, rfl, z, La, rfl, rfl, l0, l1, hO⟩ := hrel
    have H1 : Hid (One w wr p S D (F + (k : Int)) 0) := hO
    clear hO
    by_cases g : k < dl ∧ k < 200
    · obtain ⟨g1, g2⟩ := g
      have hA := prod_le (F + (k : Int)) (S + D) (by omega) (by omega) (by omega) (by omega)
      have HNW : Hid (∀ q, nw S D (F + (k : Int)) q = (F + (k : Int)) * (S + D) + q) := fun q => rfl
      have HNX : Hid (nw S D (F + (k : Int) + 1) 0 = (F + (k : Int)) * (S + D) + (S + D)) := by
        unfold Hid nw
        rw [Int.add_mul (F + (k : Int)) 1]
        omega
      have hBG : Hid (∀ w, Calls Try.prog 20 #[.int .u64 (F + (k : Int)), .int .u64 S, .int .u64 D] w fun e w' => e = .returned (.tuple #[.int .u64 ((F + (k : Int)) * (S + D)), .int .i64 0]) ∧ w' = w) := by
        exact fun w => Begin_ok _ S D (by omega) (by omega) s1 s2 (by omega) (by omega) w
      have n1 : F + (k : Int) < 1099511627776 := by omega
      have n0 : 0 ≤ F + (k : Int) := by omega
      generalize (F + (k : Int)) * (S + D) = A at *
      go_wp2_with fail
      refine (hBG.out _).mono ?_
      rintro e w4 ⟨rfl, rfl⟩
      clear hBG
      go_wp2_with fail
      refine (H1.out.now (HNW.out 0)).mono ?_
      rintro e w5 ⟨rfl, hO⟩
      have H2 : Hid (One w w5 p S D (F + (k : Int)) 0) := hO
      clear hO H1
      go_wp2_with fail
      refine (H2.out.left n1 (Int.sub_zero S)).mono ?_
      rintro e w6 ⟨rfl, hO⟩
      have H3 : Hid (One w w6 p S D (F + (k : Int)) 0) := hO
      clear hO H2
      go_wp2_with fail
      refine H3.out.number.mono ?_
      rintro e w7 ⟨rfl, hO⟩
      have H4 : Hid (One w w7 p S D (F + (k : Int)) 0) := hO
      clear hO H3
      go_wp2_with fail
      go_loopw [11, 16] (fun e i wx => ∃ j : Nat, j ≤ 3 ∧ i = .int .i64 j ∧ ∃ z q, e = .int .i64 z ∧ One w wx p S D (F + (k : Int)) q) (fun _ i _ => 3 - (intOf i).toNat)
      case atStart => exact ⟨0, by omega, rfl, _, _, rfl, H4.out⟩
      case round =>
        clear H4
        obtain ⟨j, hj, rfl, z2, q, rfl, hO⟩ := hrel
        have H5 : Hid (One w wr p S D (F + (k : Int)) q) := hO
        have q0 := hO.o.q1
        have q1 := hO.o.q2
        clear hO
        by_cases g3 : j < 3 ∧ 3 * k + j < sl
        · obtain ⟨g3, g4⟩ := g3
          obtain ⟨bs, os, es, hcs⟩ := HS.out.at' H5.out.bel g4
          subst es
          have hxb := HSB.out _ g4
          go_wp2_with fail
          have X0 : 0 ≤ sf (3 * k + j) % (S + 1) := Int.emod_nonneg _ (by omega)
          have X1 : sf (3 * k + j) % (S + 1) < S + 1 := Int.emod_lt_of_pos _ (by omega)
          clear hxb hcs
          generalize sf (3 * k + j) % (S + 1) = X at *
          refine (H5.out.left n1 (rfl : S - q = S - q)).mono ?_
          rintro e w8 ⟨rfl, hO⟩
          have H6 : Hid (One w w8 p S D (F + (k : Int)) q) := hO
          clear hO H5
          by_cases hx : X ≤ S - q
          · have hx' : decide (X ≤ S - q) = true := decide_eq_true hx
            go_wp2_with fail
            refine (H6.out.spend_ok n1 X0 hx).mono ?_
            rintro e w9 ⟨rfl, hO⟩
            have H7 : Hid (One w w9 p S D (F + (k : Int)) (q + X)) := hO
            clear hO H6
            go_wp2_with fail
            refine (H7.out.left n1 (by omega : S - (q + X) = S - q - X)).mono ?_
            rintro e w10 ⟨rfl, hO⟩
            have H8 : Hid (One w w10 p S D (F + (k : Int)) (q + X)) := hO
            clear hO H7
            go_wp2_with fail
            refine (H8.out.now (HNW.out _)).mono ?_
            rintro e w11 ⟨rfl, hO⟩
            have H9 : Hid (One w w11 p S D (F + (k : Int)) (q + X)) := hO
            clear hO H8
            go_wp2_with fail
            go_roundw
            case rel => exact ⟨j + 1, by omega, by go_num, _, _, rfl, H9.out⟩
            case measure => simp [intOf]; omega
          · have hx' : decide (X ≤ S - q) = false := decide_eq_false hx
            go_wp2_with fail
            refine (H6.out.spend_no n1 (by omega)).mono ?_
            rintro e w9 ⟨rfl, hO⟩
            have H7 : Hid (One w w9 p S D (F + (k : Int)) q) := hO
            clear hO H6
            go_wp2_with fail
            refine (H7.out.left n1 (rfl : S - q = S - q)).mono ?_
            rintro e w10 ⟨rfl, hO⟩
            have H8 : Hid (One w w10 p S D (F + (k : Int)) q) := hO
            clear hO H7
            go_wp2_with fail
            refine (H8.out.now (HNW.out _)).mono ?_
            rintro e w11 ⟨rfl, hO⟩
            have H9 : Hid (One w w11 p S D (F + (k : Int)) q) := hO
            clear hO H8
            go_wp2_with fail
            go_roundw
            case rel => exact ⟨j + 1, by omega, by go_num, _, _, rfl, H9.out⟩
            case measure => simp [intOf]; omega
        · have g5 : ¬ j < 3 ∨ (j < 3 ∧ ¬ 3 * k + j < sl) := by omega
          clear g3
          obtain ⟨bd, od, ed, hcd⟩ := HD.out.at' H5.out.bel g1
          subst ed
          have hyb := HDB.out _ g1
          rcases g5 with g5 | ⟨g5, g6⟩
          all_goals (
            go_wp2_with fail
            refine (H5.out.now (HNW.out q)).mono ?_
            rintro e w8 ⟨rfl, hO⟩
            have H6 : Hid (One w w8 p S D (F + (k : Int)) q) := hO
            have hcd8 := (HD.out.at' hO.bel g1)
            clear hO H5 hcd
            obtain ⟨bd', od', ed', hcd⟩ := hcd8
            cases ed'
            go_wp2_with fail
            have Y0 : df k % (D + 1) < D + 1 := Int.emod_lt_of_pos _ (by omega)
            clear hyb hcd
            generalize df k % (D + 1) = Y at *
            refine (H6.out.switch n1 (by omega)).mono ?_
            rintro e w9 ⟨rfl, hO⟩
            have H7 : Hid (One w w9 p S D (F + (k : Int) + 1) 0) := hO
            clear hO H6
            go_wp2_with fail
            refine (H7.out.now HNX.out).mono ?_
            rintro e w10 ⟨rfl, hO⟩
            have H8 : Hid (One w w10 p S D (F + (k : Int) + 1) 0) := hO
            clear hO H7
            go_wp2_with fail
            go_roundw
            case rel =>
              have e1 : F + ((k + 1 : Nat) : Int) = F + (k : Int) + 1 := by omega
              have e2 : (F + (k : Int) + 1) * (S + D) + 0 = A + (S + D) := HNX.out
              exact ⟨k + 1, by omega, by omega, by go_num, _, _, rfl, rfl, by omega, by rw [e1]; omega, by rw [e1]; exact H8.out⟩
            case measure => simp [intOf]; omega)
    · have g5 : ¬ k < dl ∨ (k < dl ∧ ¬ k < 200) := by omega
      clear g
      rcases g5 with g5 | ⟨g5, g6⟩
      all_goals (
        go_wp2
        go_ret
        exact ⟨rfl, H1.out.bel⟩)
end Go.Proofs.Ytbaonclncfjneaa
