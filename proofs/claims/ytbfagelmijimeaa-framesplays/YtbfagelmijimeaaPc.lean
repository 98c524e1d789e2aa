/- The law FramesPieces walked. -/
import Derived.Test.YtbfagelmijimeaaPcMath
namespace Go.Proofs.Ytbfagelmijimeaa
open Go.ChangeShapes Go.WideShapes Go.ChangeAt Go.RowKit
set_option linter.unusedVariables false

def twoV (aA : Option Addr) (lA cA : Nat) (aB : Option Addr) (lB cB : Nat) (At Size V Fr : Int) : List Value := [.slice aA lA cA, .slice aB lB cB, .int .i64 At, .int .i64 Size, .int .u64 V, .int .i64 Fr]
theorem lay_upd (fA : Nat → Int) (k i : Nat) : lay (fun _ => 0) 0 (k + 1) fA i = upd (lay (fun _ => 0) 0 k fA) k (fA k) i := by
  rw [lay_next]; rw [Nat.zero_add]
/-- Two memories, apart, and the boxed struct. -/
structure Pair (w0 : World) (p g q h n : Nat) (vs : List Value) (w : World) (fa fb : Nat → Int) : Prop where
  a : Mem w p g n fa
  b : Mem w q h n fb
  bx : Bx w w0.heap.size vs
  lt : w0.heap.size < p ∧ w0.heap.size < g ∧ w0.heap.size < q ∧ w0.heap.size < h
  ne : g ≠ q ∧ g ≠ h ∧ p ≠ h
  bel : Below w0.heap.size w0 w
theorem some_ne {a b : Nat} (h : a ≠ b) : some a ≠ some b := fun e => h (by injection e)
theorem Pair.turnA {w0 w w' : World} {p g q h n : Nat} {vs : List Value} {fa fb fa' : Nat → Int} (P : Pair w0 p g q h n vs w fa fb) (hM : Mem w' p g n fa') (gr : w.grownBy w' (some g)) : Pair w0 p g q h n vs w' fa' fb := by
  obtain ⟨l1, l2, l3, l4⟩ := P.lt
  exact ⟨hM, P.b.kept gr (some_ne P.ne.1.symm) (some_ne P.ne.2.1.symm), P.bx.kept gr (some_ne (by omega)), P.lt, P.ne, P.bel.grown gr P.bel.size (by intro k hk; injection hk; omega)⟩
theorem Pair.turnB {w0 w w' : World} {p g q h n : Nat} {vs : List Value} {fa fb fb' : Nat → Int} (P : Pair w0 p g q h n vs w fa fb) (hM : Mem w' q h n fb') (gr : w.grownBy w' (some h)) : Pair w0 p g q h n vs w' fa fb' := by
  obtain ⟨l1, l2, l3, l4⟩ := P.lt
  exact ⟨P.a.kept gr (some_ne P.ne.2.2) (some_ne P.ne.2.1), hM, P.bx.kept gr (some_ne (by omega)), P.lt, P.ne, P.bel.grown gr P.bel.size (by intro k hk; injection hk; omega)⟩
theorem Pair.grow {w0 w w' : World} {p g q h n : Nat} {vs : List Value} {fa fb : Nat → Int} (P : Pair w0 p g q h n vs w fa fb) (gr : w.grownBy w' none) : Pair w0 p g q h n vs w' fa fb :=
  ⟨P.a.kept gr (by simp) (by simp), P.b.kept gr (by simp) (by simp), P.bx.kept gr (by simp), P.lt, P.ne, P.bel.grown gr P.bel.size (by simp)⟩
theorem Mem.congr {w : World} {p g n : Nat} {f f' : Nat → Int} (M : Mem w p g n f) (e : ∀ i, i < n * 256 → f i = f' i) : Mem w p g n f' :=
  ⟨M.lt, M.cell, M.by'.congr e, M.ne, fun i hi => by rw [← e i hi]; exact M.ok i hi⟩
theorem Pair.congr {w0 w : World} {p g q h n : Nat} {vs : List Value} {fa fb fa' fb' : Nat → Int} (P : Pair w0 p g q h n vs w fa fb) (ea : ∀ i, i < n * 256 → fa i = fa' i) (eb : ∀ i, i < n * 256 → fb i = fb' i) : Pair w0 p g q h n vs w fa' fb' :=
  ⟨P.a.congr ea, P.b.congr eb, P.bx, P.lt, P.ne, P.bel⟩
/-- The two as New makes them, behind the box. -/
theorem Pair.start {w0 w1 w2 w3 : World} {p g q h n : Nat} {cs : Array Value} {t : TypeId} (hb1 : Below (w0.alloc (.cells cs t)).heap.size (w0.alloc (.cells cs t)) w1)
    (hM : Mem w2 p g n (fun _ => 0)) (gr : w1.grownBy w2 none) (hp : w1.heap.size ≤ p) (hg : w1.heap.size ≤ g) (hM2 : Mem w3 q h n (fun _ => 0)) (gr2 : w2.grownBy w3 none) (hq : w2.heap.size ≤ q) (hh : w2.heap.size ≤ h) :
    Pair w0 p g q h n cs.toList w3 (fun _ => 0) (fun _ => 0) := by
  have s1 := hb1.size
  simp at s1
  have l1 := hM.lt
  have l2 := hM.by'.1
  have bx1 : Bx w1 w0.heap.size cs.toList := by
    have := bx_new w0 cs t
    exact ⟨by omega, fun i v hv => (hb1.cell (by simp)).trans (this.2 i v hv)⟩
  have b0 : Below w0.heap.size w0 (w0.alloc (.cells cs t)) := (Below.refl _ _).alloc (Nat.le_refl _) _
  have b1 : Below w0.heap.size w0 w1 := b0.trans (hb1.mono (by simp))
  have b2 := b1.grown gr b1.size (by simp)
  exact ⟨hM.kept gr2 (by simp) (by simp), hM2, (bx1.kept gr (by simp)).kept gr2 (by simp), ⟨by omega, by omega, by omega, by omega⟩, ⟨by omega, by omega, by omega⟩, b2.grown gr2 b2.size (by simp)⟩
set_option maxRecDepth 100000 in
set_option maxHeartbeats 4000000 in
theorem pieces_walk (w : World) (aA : Option Addr) (lA cA : Nat) (aB : Option Addr) (lB cB : Nat) (At Size V Fr cut : Int) (fA : Nat → Int) (hl : lA ≤ maxLen) (hA : Arg w aA lA fA) (hok : okB lA fA)
    (hAt0 : -9223372036854775808 ≤ At) (hAt1 : At < 9223372036854775808) (hS0 : -9223372036854775808 ≤ Size) (hS1 : Size < 9223372036854775808) (hC0 : -9223372036854775808 ≤ cut) (hC1 : cut < 9223372036854775808)
    (hV0 : 0 ≤ V) (hV1 : V < 18446744073709551616) :
    Calls Try.prog 7 #[.agg (twoV aA lA cA aB lB cB At Size V Fr).toArray, .int .i64 cut] w fun e w' => e = .returned (.bool true) ∧ Below w.heap.size w w' := by
  have HA : Hid (Arg w aA lA fA) := hA
  have HO : Hid (okB lA fA) := hok
  clear hA hok
  unfold maxLen at hl
  unfold twoV
  go_enter Try.func7, Try.ntmps7
  go_wp2_with fail
  refine (works_any _).mono ?_
  rintro e w1 ⟨rfl, hb1⟩
  go_wp2_with fail
  refine (New_ok 2 (by omega) (by omega) w1).mono ?_
  rintro e w2 ⟨p, g, rfl, hM, gr, hp, hg⟩
  go_wp2_with fail
  refine (New_ok 2 (by omega) (by omega) w2).mono ?_
  rintro e w3 ⟨q, h, rfl, hM2, gr2, hq, hh⟩
  have hP : Pair w p g q h 2 (twoV aA lA cA aB lB cB At Size V Fr) w3 (fun _ => 0) (fun _ => 0) := Pair.start hb1 hM gr hp hg hM2 gr2 hq hh
  clear hb1 hM gr hp hg hM2 gr2 hq hh
  generalize hvs : twoV aA lA cA aB lB cB At Size V Fr = vs at hP
  have g0 : Hid (vs[0]? = some (.slice aA lA cA)) := by rw [← hvs]; rfl
  have g2 : Hid (vs[2]? = some (.int .i64 At)) := by rw [← hvs]; rfl
  have g3 : Hid (vs[3]? = some (.int .i64 Size)) := by rw [← hvs]; rfl
  have g4 : Hid (vs[4]? = some (.int .u64 V)) := by rw [← hvs]; rfl
  clear hvs
  have HP : Hid (Pair w p g q h 2 vs w3 (fun _ => 0) (fun _ => 0)) := hP
  clear hP
  go_wp2_with fail
  go_loopw [9] (fun i wr => ∃ k : Nat, k ≤ lA ∧ k ≤ 512 ∧ i = .int .i64 k ∧ Pair w p g q h 2 vs wr (lay (fun _ => 0) 0 k fA) (lay (fun _ => 0) 0 k fA)) (fun i _ => 512 - (intOf i).toNat)
  case atStart => exact ⟨0, by omega, by omega, rfl, HP.out.congr (fun i _ => (lay_zero (fun _ => 0) 0 fA i).symm) (fun i _ => (lay_zero (fun _ => 0) 0 fA i).symm)⟩
  case round =>
    clear HP
    obtain ⟨k, hk1, hk2, rfl, hP⟩ := hrel
    have c0 := hP.bx.2 0 _ g0.out
    have HP : Hid (Pair w p g q h 2 vs wr _ _) := hP
    clear hP
    by_cases hlt : k < lA ∧ k < 512
    · obtain ⟨t1, t2⟩ := hlt
      obtain ⟨b, o, rfl, hbs, hc⟩ := (HA.out.below HP.out.bel).lt (by omega)
      have hck := hc k t1
      obtain ⟨v0, v1⟩ := HO.out k t1
      clear hc
      go_wp2_with fail
      refine (SetByte_ok HP.out.a (by omega) k (by omega) (fA k) v0 v1).mono ?_
      rintro e w4 ⟨rfl, hM, gr⟩
      have HP4 : Hid (Pair w p g q h 2 vs w4 _ _) := HP.out.turnA hM gr
      clear hM gr
      have c04 := HP4.out.bx.2 0 _ g0.out
      obtain ⟨b', o', e', hbs', hc⟩ := (HA.out.below HP4.out.bel).lt (by omega)
      cases e'
      have hck4 := hc k t1
      clear hc
      go_wp2_with fail
      refine (SetByte_ok HP4.out.b (by omega) k (by omega) (fA k) v0 v1).mono ?_
      rintro e w5 ⟨rfl, hM, gr⟩
      have HP5 : Hid (Pair w p g q h 2 vs w5 _ _) := HP4.out.turnB hM gr
      clear hM gr
      go_wp2
      go_roundw
      case rel => exact ⟨k + 1, by omega, by omega, by go_num, HP5.out.congr (fun i _ => (lay_upd fA k i).symm) (fun i _ => (lay_upd fA k i).symm)⟩
      case measure => simp [intOf]; omega
    · generalize lay (fun _ => 0) 0 k fA = f0 at HP
      have c2 := HP.out.bx.2 2 _ g2.out
      have c3 := HP.out.bx.2 3 _ g3.out
      have c4 := HP.out.bx.2 4 _ g4.out
      have e1 := Int.emod_nonneg Size (show (7 : Int) ≠ 0 by omega)
      have e2 := Int.emod_lt_of_pos Size (show (0 : Int) < 7 by omega)
      rcases (show k < lA ∧ ¬ k < 512 ∨ ¬ k < lA by omega) with ⟨t1, t2⟩ | t1 <;> (
        go_wp2_with fail
        refine (kind_any Size 7 (by omega) (by omega) hS0 hS1 _).mono ?_
        rintro e w4 ⟨rfl, rfl⟩
        generalize Size % 7 = z at *
        go_wp2_with fail
        obtain ⟨s, hs⟩ := Int.eq_ofNat_of_zero_le (show 0 ≤ 2 + z by omega)
        rw [hs]
        have e7 : 2 ≤ s ∧ s ≤ 8 := by omega
        clear hs e1 e2
        have e3 := Int.emod_nonneg At (show 512 - (s : Int) + 1 ≠ 0 by omega)
        have e4 := Int.emod_lt_of_pos At (show 0 < 512 - (s : Int) + 1 by omega)
        refine (kind_any At (512 - (s : Int) + 1) (by omega) (by omega) hAt0 hAt1 _).mono ?_
        rintro e w5 ⟨rfl, rfl⟩
        generalize At % (512 - (s : Int) + 1) = z at *
        obtain ⟨a, rfl⟩ := Int.eq_ofNat_of_zero_le e3
        go_wp2_with fail
        have e5 := Int.emod_nonneg cut (show (s : Int) - 1 ≠ 0 by omega)
        have e6 := Int.emod_lt_of_pos cut (show 0 < (s : Int) - 1 by omega)
        refine (kind_any cut ((s : Int) - 1) (by omega) (by omega) hC0 hC1 _).mono ?_
        rintro e w6 ⟨rfl, rfl⟩
        generalize cut % ((s : Int) - 1) = z at *
        go_wp2_with fail
        obtain ⟨c, hc⟩ := Int.eq_ofNat_of_zero_le (show 0 ≤ 1 + z by omega)
        rw [hc]
        have e8 : 1 ≤ c ∧ c < s := by omega
        clear hc e5 e6
        have hw8 := wrap8 c (by omega)
        have hp0 := pow256 c
        have hp1 := pow_lt c (by omega)
        have hsw : IntKind.u64.wrap (2 ^ (8 * (c : Int)).toNat) = 256 ^ c := by
          rw [show (8 * (c : Int)).toNat = 8 * c by omega, pow8, IntKind.wrap_u64, Int.emod_eq_of_lt (by omega) (by omega)]
        have hsq : (2 : Int) ^ (8 * (c : Int)).toNat = 256 ^ c := by rw [show (8 * (c : Int)).toNat = 8 * c by omega, pow8]
        have hsn : (2 : Int) ^ (8 * c) = 256 ^ c := pow8 c
        have HPC : Hid (∃ pc : Int, pc = 256 ^ c) := ⟨_, rfl⟩
        obtain ⟨pc, hpc⟩ := HPC
        rw [← hpc] at hp0 hp1 hsw hsq hsn
        have HPC : Hid (pc = 256 ^ c) := hpc
        clear hpc
        have hpn : pc ≠ 0 := by omega
        go_quiet (fail)
        have HQ : Hid (Pair w p g q h 2 vs (w6.drewN nq) f0 f0) := HP.out.grow ⟨rfl, rfl, rfl, Nat.le_refl _, fun _ _ _ => rfl⟩
        clear c0 c2 c3 c4 HP hsw
        generalize w6.drewN nq = w7 at *
        have c4 := HQ.out.bx.2 4 _ g4.out
        go_wp2_with fail
        refine (Store_ok HQ.out.a (by omega) a s (by omega) (by omega) (by omega) V hV0 hV1).mono ?_
        rintro e w8 ⟨rfl, hM, gr⟩
        have HQ8 : Hid (Pair w p g q h 2 vs w8 _ f0) := HQ.out.turnA hM gr
        clear hM gr c4 HQ
        have c4 := HQ8.out.bx.2 4 _ g4.out
        have hd0 : 0 ≤ V / pc := Int.ediv_nonneg hV0 (by omega)
        have hd1 : V / pc ≤ V := Int.ediv_le_self _ hV0
        have C := Store_ok HQ8.out.b (by omega) (a + c) (s - c) (by omega) (by omega) (by omega) (V / pc) hd0 (by omega)
        rw [show ((a + c : Nat) : Int) = (a : Int) + c by omega, show ((s - c : Nat) : Int) = (s : Int) - c by omega] at C
        have HC : Hid (Calls _ _ _ _ _) := C
        clear C
        go_wp2_with fail
        refine HC.out.mono ?_
        rintro e w9 ⟨rfl, hM, gr⟩
        have HQ9 : Hid (Pair w p g q h 2 vs w9 _ _) := HQ8.out.turnB hM gr
        clear hM gr c4 HC HQ8
        have hm0 := Int.emod_nonneg V hpn
        have hm1 := Int.emod_lt_of_pos V hp0
        go_wp2_with fail
        refine (Store_ok HQ9.out.b (by omega) a c (by omega) (by omega) (by omega) (V % pc) hm0 (by omega)).mono ?_
        rintro e w10 ⟨rfl, hM, gr⟩
        have hQ : Pair w p g q h 2 vs w10 _ _ := HQ9.out.turnB hM gr
        clear hM gr HQ9
        have hQ2 : Pair w p g q h 2 vs w10 (lay f0 a s (byt V)) (lay f0 a s (byt V)) := hQ.congr (fun _ _ => rfl) (fun i _ => by rw [HPC.out]; exact lay_pieces f0 V a c s (by omega) i)
        clear hQ
        generalize lay f0 a s (byt V) = f1 at hQ2
        have HQ : Hid (Pair w p g q h 2 vs w10 f1 f1) := hQ2
        clear hQ2
        go_wp2_with fail
        go_loopw [13] (fun i wr => ∃ k : Nat, k ≤ 2 ∧ i = .int .i64 k ∧ Pair w p g q h 2 vs wr f1 f1) (fun i _ => 2 - (intOf i).toNat)
        case atStart => exact ⟨0, by omega, rfl, HQ.out⟩
        case round =>
          clear HQ
          obtain ⟨j, hj, rfl, hQ⟩ := hrel
          have HQ : Hid (Pair w p g q h 2 vs _ f1 f1) := hQ
          clear hQ
          by_cases hj2 : j < 2
          · go_wp2_with fail
            refine (Page_ok HQ.out.a (by omega) j hj2).mono ?_
            rintro e w11 ⟨b1, rfl, hB1, gr, hl1⟩
            have HR : Hid (Pair w p g q h 2 vs w11 f1 f1) := HQ.out.grow gr
            have HB1 : Hid (By w11 b1 256 (fun i => f1 (j * 256 + i))) := hB1
            clear hB1 gr HQ
            go_wp2_with fail
            refine (Page_ok HR.out.b (by omega) j hj2).mono ?_
            rintro e w12 ⟨b2, rfl, hB2, gr, hl2⟩
            have HS : Hid (Pair w p g q h 2 vs w12 f1 f1) := HR.out.grow gr
            have HA1 : Hid (Arg w12 (some ⟨b1, 0, none⟩) 256 (fun i => f1 (j * 256 + i))) := (HB1.out.kept gr (by simp)).arg
            have HA2 : Hid (Arg w12 (some ⟨b2, 0, none⟩) 256 (fun i => f1 (j * 256 + i))) := hB2.arg
            clear hB2 gr HR HB1
            go_wp2_with fail
            refine (same_any (by unfold maxLen; omega) HA1.out HA2.out).mono ?_
            rintro e w13 ⟨rfl, gr⟩
            have HT : Hid (Pair w p g q h 2 vs w13 f1 f1) := HS.out.grow gr
            clear gr
            go_wp2
            go_roundw
            case rel => exact ⟨j + 1, by omega, by go_num, HT.out⟩
            case measure => simp [intOf]; omega
          · obtain rfl : j = 2 := by omega
            go_wp2_with fail
            refine (Load_ok HQ.out.a (by omega) a s (by omega) (by omega) (by omega)).mono ?_
            rintro e w11 ⟨rfl, rfl⟩
            go_wp2_with fail
            refine (Load_ok HQ.out.a (by omega) a c (by omega) (by omega) (by omega)).mono ?_
            rintro e w12 ⟨rfl, rfl⟩
            have C := Load_ok HQ.out.a (by omega) (a + c) (s - c) (by omega) (by omega) (by omega)
            rw [show ((a + c : Nat) : Int) = (a : Int) + c by omega, show ((s - c : Nat) : Int) = (s : Int) - c by omega] at C
            have HC : Hid (Calls _ _ _ _ _) := C
            clear C
            go_wp2_with fail
            refine HC.out.mono ?_
            rintro e w13 ⟨rfl, rfl⟩
            have hsp := num_split f1 a c (s - c)
            rw [show c + (s - c) = s by omega, ← HPC.out] at hsp
            obtain ⟨n0, n1⟩ := num_lt f1 a s (by omega) (fun i hi => HQ.out.a.ok _ (by omega))
            obtain ⟨n2, n3⟩ := num_lt f1 a c (by omega) (fun i hi => HQ.out.a.ok _ (by omega))
            obtain ⟨n4, n5⟩ := num_lt f1 (a + c) (s - c) (by omega) (fun i hi => HQ.out.a.ok _ (by omega))
            have n6 : 0 ≤ num f1 (a + c) (s - c) * pc := Int.mul_nonneg n4 (by omega)
            clear HC
            generalize num f1 (a + c) (s - c) = r3 at *
            generalize num f1 a c = r2 at *
            rw [hsp] at n0 n1 ⊢
            clear hsp
            generalize hrp : r3 * pc = rp at *
            have hwr : IntKind.u64.wrap (r3 * 2 ^ (8 * (c : Int)).toNat) = rp := by rw [hsq, hrp, IntKind.wrap_u64, Int.emod_eq_of_lt (by omega) (by omega)]
            have hwr2 : IntKind.u64.wrap (r3 * pc) = rp := by rw [hrp, IntKind.wrap_u64, Int.emod_eq_of_lt (by omega) (by omega)]
            clear hrp
            go_wp2
            go_ret
            exact ⟨rfl, HQ.out.bel⟩)
end Go.Proofs.Ytbfagelmijimeaa
