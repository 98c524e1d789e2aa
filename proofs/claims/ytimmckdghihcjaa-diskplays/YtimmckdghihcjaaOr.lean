/- Two disks that answer alike, said once for those that are there and for those that are none; the statement's look at one Read. -/
import Derived.Test.YtimmckdghihcjaaWk
import Derived.Test.YtimmckdghihcjaaRg
import Derived.ArgAppend
import Derived.Deep.Onto
import Derived.Deep.RegionWith
namespace Go.Proofs.Ytimmckdghihcjaa
open Go.ChangeShapes Go.WideShapes Go.ChangeAt Go.RowKit
set_option linter.unusedVariables false

abbrev Slots := Nat → Option (Nat → Int)
/-- What turned lies from B on and is none of A, or is new. -/
def Ch2 (B : Nat) (A : List Nat) (W W' : World) : Prop := ∃ row, W.grownBy W' row ∧ ∀ j, row = some j → B ≤ j ∧ j ∉ A
/-- Both disks: the program's slots, the document's, a bound of all blocks, what is none of them. -/
abbrev St := Slots → Slots → Nat → List Nat → World → Prop
def Pg (W : World) (l : Nat) (u : Nat → Int) (er : Int) (e : Ending) (W' : World) : Prop := ∃ ao, e = .returned (.tuple #[.slice ao l l, .int .i64 er]) ∧ NewA W W' ao l u ∧ W.grownBy W' none
def PgR (W : World) (l : Nat) (u : Nat → Int) (er : Int) (e : Ending) (W' : World) : Prop := ∃ ao c, e = .returned (.tuple #[.slice ao l c, .int .i64 er]) ∧ NewA W W' ao l u ∧ W.grownBy W' none
def Ud (W : World) (l : List Int) (e : Ending) (W' : World) : Prop := ∃ v, e = .returned v ∧ Is W' W.heap.size v l ∧ W.grownBy W' none
structure Orc (mv rv : Option Addr) (B : Nat) (S : St) : Prop where
  stay : ∀ m m2 T A W W' row, S m m2 T A W → W.grownBy W' row → (∀ j, row = some j → T ≤ j ∨ j ∈ A) → S m m2 T A W'
  size : ∀ m m2 T A W, S m m2 T A W → B ≤ T ∧ T ≤ W.heap.size
  up : ∀ m m2 T A W, S m m2 T A W → S m m2 W.heap.size A W
  add : ∀ m m2 T A W x, S m m2 T A W → T ≤ x → x < W.heap.size → S m m2 T (x :: A) W
  sub : ∀ m m2 T A W x, S m m2 T (x :: A) W → S m m2 T A W
  read : ∀ m (k : Int), ∃ l u er, l ≤ 256 ∧ (∀ W T A, S m m T A W → okB l u ∧ (Calls Try.prog 19 #[.pointer mv, .int .i64 k] W (Pg W l u er)) ∧ (Calls Try.prog 28 #[.pointer rv, .int .i64 k] W (PgR W l u er)))
  write : ∀ m (k : Int) (l : Nat) (h : Nat → Int), l ≤ maxLen → okB l h → ∃ m' er,
    (∀ W m2 T A ao c, S m m2 T A W → Arg W ao l h → (∀ b off, ao = some ⟨b, off, none⟩ → l = 0 ∨ b ∈ A) → Calls Try.prog 17 #[.pointer mv, .int .i64 k, .slice ao l c] W fun e W' => e = .returned (.int .i64 er) ∧ S m' m2 T A W' ∧ Ch2 B A W W') ∧
    (∀ W m1 T A ao c, S m1 m T A W → Arg W ao l h → Calls Try.prog 30 #[.pointer rv, .int .i64 k, .slice ao l c] W fun e W' => e = .returned (.int .i64 er) ∧ S m1 m' W'.heap.size A W' ∧ Ch2 B A W W')
  erase : ∀ m (k : Int), ∃ m' er,
    (∀ W m2 T A, S m m2 T A W → Calls Try.prog 20 #[.pointer mv, .int .i64 k] W fun e W' => e = .returned (.int .i64 er) ∧ S m' m2 T A W' ∧ Ch2 B A W W') ∧
    (∀ W m1 T A, S m1 m T A W → Calls Try.prog 25 #[.pointer rv, .int .i64 k] W fun e W' => e = .returned (.int .i64 er) ∧ S m1 m' T A W' ∧ Ch2 B A W W')
  used : ∀ m, ∃ l : List Int, l.length ≤ 1024 ∧ ∀ W T A, S m m T A W → Calls Try.prog 11 #[.pointer mv] W (Ud W l) ∧ Calls Try.prog 13 #[.pointer rv] W (Ud W l)
theorem Orc.grow {mv rv : Option Addr} {B T : Nat} {A : List Nat} {S : St} (O : Orc mv rv B S) {m m2 : Slots} {W W' : World} (h : S m m2 T A W) (g : W.grownBy W' none) : S m m2 T A W' := O.stay m m2 T A W W' none h g (fun j hj => by cases hj)
set_option maxRecDepth 100000 in
set_option maxHeartbeats 4000000 in
theorem read_any {mv rv : Option Addr} {B T : Nat} {A : List Nat} {S : St} (O : Orc mv rv B S) (f : Nat → Option (Nat → Int)) (k : Int) (w : World) (hS : S f f T A w) :
    Calls Try.prog 14 #[.pointer mv, .pointer rv, .int .i64 k] w fun e w' => e = .returned (.bool true) ∧ Below w.heap.size w w' := by
  obtain ⟨i0, hi, hz0, hz1, hz2⟩ := info_parts Try.infoU
  obtain ⟨l, u, er, hl, hC⟩ := O.read f k
  have HO : Hid (Orc mv rv B S) := O
  have HS : Hid (S f f T A w) := hS
  have HC : Hid (∀ W, S f f T A W → okB l u ∧ (Calls Try.prog 19 #[.pointer mv, .int .i64 k] W (Pg W l u er)) ∧ (Calls Try.prog 28 #[.pointer rv, .int .i64 k] W (PgR W l u er))) := fun W h => hC W T A h
  have HU : Hid (okB l u) := (hC w T A hS).1
  have hT := (O.size _ _ _ _ _ hS).2
  clear O hS hC
  go_enter Try.func14, Try.ntmps14
  go_wp2_with fail
  refine (HC.out w HS.out).2.1.mono ?_
  rintro e w1 ⟨a1, rfl, hN1, gr1⟩
  have HS1 : Hid (S f f T A w1) := HO.out.grow HS.out gr1
  have HN1 : Hid (NewA w w1 a1 l u) := hN1
  have G1 : Hid (w.grownBy w1 none) := gr1
  clear hN1 gr1
  go_wp2_with fail
  refine (HC.out w1 HS1.out).2.2.mono ?_
  rintro e w2 ⟨a2, c2, rfl, hN2, gr2⟩
  have HS2 : Hid (S f f T A w2) := HO.out.grow HS1.out gr2
  have HN2 : Hid (NewA w1 w2 a2 l u) := hN2
  have HA1 : Hid (Arg w2 a1 l u) := HN1.out.arg.grown gr2 (by simp)
  have G2 : Hid (w.grownBy w2 none) := G1.out.trans gr2
  have G12 : Hid (w1.grownBy w2 none) := gr2
  clear hN2 gr2
  go_wp2_with fail
  refine (same_any (by unfold maxLen; omega) HA1.out HN2.out.arg).mono ?_
  rintro e w3 ⟨rfl, gr3⟩
  have HS3 : Hid (S f f T A w3) := HO.out.grow HS2.out gr3
  have HA2 : Hid (Arg w3 a2 l u) := HN2.out.arg.grown gr3 (by simp)
  have G3 : Hid (w.grownBy w3 none) := G2.out.trans gr3
  have NF : Hid (l = 0 ∨ ∃ b, a1 = some ⟨b, 0, none⟩ ∧ w.heap.size ≤ b ∧ (∀ b2 off, a2 = some ⟨b2, off, none⟩ → b2 ≠ b) ∧ By w3 b l u) := by
    rcases HN1.out with ⟨h0, _⟩ | ⟨b, hb, hB, hlb⟩
    · exact Or.inl h0
    · refine Or.inr ⟨b, hb, hlb, ?_, ?_⟩
      · intro b2 off e2
        rcases HN2.out with ⟨_, h2⟩ | ⟨b2', h2, _, hlb2⟩
        · rw [h2] at e2; cases e2
        · rw [h2] at e2
          cases e2
          have := hB.1
          omega
      · exact hB.kept (G12.out.trans gr3) (by simp)
  clear HN1 HN2 HS1 HS2 HA1 G1 G2 G12 gr3 HS
  go_wp2_with fail
  go_loopw [11] (fun i wr => ∃ j : Nat, j ≤ l ∧ i = .int .i64 j ∧ S f f T A wr ∧ Arg wr a2 l u ∧ Below w.heap.size w wr ∧ (l = 0 ∨ ∃ b, a1 = some ⟨b, 0, none⟩ ∧ w.heap.size ≤ b ∧ (∀ b2 off, a2 = some ⟨b2, off, none⟩ → b2 ≠ b) ∧ By wr b l (flip u j))) (fun i _ => l - (iv i).toNat)
  case atStart =>
    refine ⟨0, by omega, rfl, HS3.out, HA2.out, (Below.refl _ _).grown G3.out (Nat.le_refl _) (by simp), ?_⟩
    rcases NF.out with h0 | ⟨b, h1, h2, h3, h4⟩
    · exact Or.inl h0
    · exact Or.inr ⟨b, h1, h2, h3, h4.congr (fun i _ => (flip_zero u i).symm)⟩
  case round =>
    clear HS3 HA2 G3 NF
    obtain ⟨j, hj, rfl, hS, hA, hB, hN⟩ := hrel
    have HS : Hid (S f f T A wr) := hS
    have HA : Hid (Arg wr a2 l u) := hA
    have HB : Hid (Below w.heap.size w wr) := hB
    have HN : Hid (l = 0 ∨ ∃ b, a1 = some ⟨b, 0, none⟩ ∧ w.heap.size ≤ b ∧ (∀ b2 off, a2 = some ⟨b2, off, none⟩ → b2 ≠ b) ∧ By wr b l (flip u j)) := hN
    clear hS hA hB hN
    by_cases hlt : j < l
    · obtain ⟨b, rfl, q1, q2, q3⟩ := (HN.out).resolve_left (by omega)
      have HQ2 : Hid (∀ b2 off, a2 = some ⟨b2, off, none⟩ → b2 ≠ b) := q2
      have HQ3 : Hid (By wr b l (flip u j)) := q3
      obtain ⟨x1, x2⟩ := q3.2 j hlt
      rw [flip_at] at x1
      obtain ⟨v0, v1⟩ := HU.out j hlt
      clear q2 q3 HN
      go_wp2
      rw [not_u8 _ v0 v1]
      go_roundw
      case rel =>
        have G := grown_setCell' wr b j (.int .u8 (255 - u j))
        refine ⟨j + 1, by omega, by go_num, HO.out.stay _ _ _ _ _ _ _ HS.out G (fun t ht => Or.inl (by injection ht; omega)), HA.out.grown G (fun b2 off e => some_ne (HQ2.out b2 off e)), HB.out.grown G HB.out.size (fun t ht => by injection ht; omega), Or.inr ⟨b, rfl, q1, HQ2.out, ?_⟩⟩
        exact (HQ3.out.set j (255 - u j)).congr (fun i _ => (flip_next u j i).symm)
      case measure => simp [iv]; omega
    · obtain rfl : j = l := by omega
      clear hlt hj
      have hsz := HB.out.size
      go_wp2_with fail
      have HRR : Hid (∃ R, R = wr.heap.size) := ⟨_, rfl⟩
      obtain ⟨R, hR⟩ := HRR
      have hRT : T ≤ R ∧ w.heap.size ≤ R := by have := (HO.out.size _ _ _ _ _ HS.out).2; omega
      have HA2R : Hid (∀ b2 off, a2 = some ⟨b2, off, none⟩ → b2 < R ∨ j = 0) := fun b2 off e => by
        rcases HA.out with h0 | ⟨b, o, e2, hr⟩
        · exact Or.inr h0
        · rw [e] at e2
          cases e2
          exact Or.inl (by rw [hR]; exact hr.1)
      have HR : Hid (R = wr.heap.size) := hR
      clear hR
      go_loopw [7, 12] (fun v i wx => ∃ (t : Nat) (vv : Value), vv = v ∧ t ≤ 300 ∧ i = .int .i64 t ∧ S f f T A wx ∧ Arg wx a2 j u ∧ Below w.heap.size w wx ∧ R ≤ wx.heap.size ∧ ((t = 0 ∧ v = .slice a1 j j ∧ (j = 0 ∧ (a1 = none → True) ∨ ∃ b, a1 = some ⟨b, 0, none⟩ ∧ By wx b j (flip u j))) ∨ (0 < t ∧ ∃ xs, wx.ownsRow R 5 1 v (j + t) xs))) (fun _ i _ => 300 - (iv i).toNat)
      case atStart =>
        refine ⟨0, _, rfl, by omega, rfl, HS.out, HA.out, HB.out, by rw [HR.out]; exact Nat.le_refl _, Or.inl ⟨rfl, rfl, ?_⟩⟩
        rcases HN.out with h0 | ⟨b, h1, h2, h3, h4⟩
        · exact Or.inl ⟨h0, fun _ => trivial⟩
        · exact Or.inr ⟨b, h1, h4⟩
      case round =>
        clear HR
        obtain ⟨t, v, hv, ht, rfl, hS, hA, hB, hwx, hV⟩ := hrel
        subst hv
        clear HS HA HB HN hsz
        have HS : Hid (S f f T A wr) := hS
        have HA : Hid (Arg wr a2 j u) := hA
        have HB : Hid (Below w.heap.size w wr) := hB
        clear hS hA hB
        have hsz := HB.out.size
        have hTx := (HO.out.size _ _ _ _ _ HS.out).2
        by_cases hlt : t < 300
        · rcases hV with ⟨rfl, rfl, hcase⟩ | ⟨ht0, xs, o⟩
          · have hnone : a1 = none → j = 0 ∧ j = 0 := by
              intro h
              rcases hcase with ⟨h0, _⟩ | ⟨b, h1, _⟩
              · exact ⟨h0, h0⟩
              · rw [h] at h1; cases h1
            have holds : ∀ b, a1 = some b → ∀ i x, (vals j (flip u j))[i]? = some x → (wr.alloc (.cells #[.int .u8 7] 5)).cell? (b.add i) = some x := by
              intro b hb i x hx
              have hi : i < j := by have := (List.getElem?_eq_some_iff.1 hx).1; rwa [vals_len] at this
              rcases hcase with ⟨h0, _⟩ | ⟨b', h1, hB'⟩
              · omega
              · rw [h1] at hb
                cases hb
                rw [vals_get _ _ _ hi] at hx
                rw [Go.WideShapes.add_plain, ← hx, Nat.zero_add]
                exact ((hB'.kept (World.grownBy_alloc _ _ none) (by simp)).2 i hi).1
            have H1 : Hid (a1 = none → j = 0 ∧ j = 0) := hnone
            have H2 : Hid (∀ b, a1 = some b → ∀ i x, (vals j (flip u j))[i]? = some x → (wr.alloc (.cells #[.int .u8 7] 5)).cell? (b.add i) = some x) := holds
            clear hnone holds hcase
            go_wp2_with (at_builtin; refine wpList_append_grows _ rfl (.tmp 54) (.tmp 55) 32 rfl 5 i0 _ 1 1 Try.underlying32 hi hz0 hz1 hz2 rfl (by decide) a1 j j (vals j (flip u j)) rfl H1.out (by rw [vals_len, Nat.mul_one]) H2.out ⟨wr.heap.size, 0, none⟩ 1 1 [.int .u8 7] rfl rfl (cell_one_new _ _ _) (by intro u hu; simp at hu; subst hu; rfl) (by omega) (by unfold maxLen; omega) (by omega) ?_; intro v2 w2 o2 gr2)
            go_roundw
            case rel =>
              have ga := World.grownBy_alloc wr (.cells #[.int .u8 7] 5) none
              have gg := ga.trans gr2
              refine ⟨0 + 1, _, rfl, by omega, by go_num, HO.out.grow HS.out gg, HA.out.grown gg (by simp), HB.out.grown gg hsz (by simp), Nat.le_trans hwx gg.size, Or.inr ⟨by omega, _, World.ownsRow.mono o2 (by simp; omega)⟩⟩
            case measure => simp [iv]
          · have HOW : Hid (wr.ownsRow R 5 1 v (j + t) xs) := o
            clear o
            go_wp2_with (at_builtin; refine wpList_append_own _ rfl (.tmp 54) (.tmp 55) 32 rfl R 5 i0 _ 1 1 Try.underlying32 hi hz0 hz1 hz2 rfl (by decide) _ (j + t) _ rfl (HOW.out.alloc _) ⟨wr.heap.size, 0, none⟩ 1 1 [.int .u8 7] rfl rfl (cell_one_new _ _ _) (by intro u hu; simp at hu; subst hu; rfl) (by unfold maxLen; omega) (by omega) (by simp; omega) ?_; intro v2 w2 o2 gr2 nil2)
            go_roundw
            case rel =>
              have ga := World.grownBy_alloc wr (.cells #[.int .u8 7] 5) none
              have HS' := HO.out.grow HS.out ga
              have hrow : ∀ y, v.ownBlock = some y → R ≤ y := fun y hy => (HOW.out.lt y hy).1
              refine ⟨t + 1, _, rfl, by omega, by go_num, HO.out.stay _ _ _ _ _ _ _ HS' gr2 (fun y hy => Or.inl (by have := hrow y hy; omega)), ?_, ?_, Nat.le_trans hwx (Nat.le_trans ga.size gr2.size), Or.inr ⟨by omega, _, by rw [← Nat.add_assoc]; exact o2⟩⟩
              · by_cases hj0 : j = 0
                · exact Or.inl hj0
                · refine (HA.out.grown ga (by simp)).grown gr2 (fun b2 off e he => ?_)
                  have h1 := HA2R.out b2 off e
                  have h2 := hrow b2 he.symm
                  omega
              · exact (HB.out.grown ga hsz (by simp)).grown gr2 (Nat.le_trans hsz ga.size) (fun y hy => by have := hrow y hy; omega)
            case measure => simp [iv]; omega
        · obtain rfl : t = 300 := by omega
          clear hV
          go_wp2_with fail
          refine (HC.out wr HS.out).2.1.mono ?_
          rintro e w5 ⟨a3, rfl, hN3, gr3⟩
          have HA3 : Hid (Arg w5 a3 j u) := hN3.arg
          have HA4 : Hid (Arg w5 a2 j u) := HA.out.grown gr3 (by simp)
          have HB5 : Hid (Below w.heap.size w w5) := HB.out.grown gr3 hsz (by simp)
          clear hN3 gr3
          go_wp2_with fail
          refine (same_any (by unfold maxLen; omega) HA3.out HA4.out).mono ?_
          rintro e w6 ⟨rfl, gr6⟩
          have HB6 : Hid (Below w.heap.size w w6) := HB5.out.grown gr6 HB5.out.size (by simp)
          clear gr6
          go_wp2
          go_ret
          exact ⟨rfl, HB6.out⟩
end Go.Proofs.Ytimmckdghihcjaa
