/- Memories that are none, and memories that New made, answer alike: the two cases of what the step asks. -/
import Derived.Test.YtbfagelmijimeaaOrc
namespace Go.Proofs.Ytbfagelmijimeaa
open Go.ChangeShapes Go.WideShapes Go.ChangeAt Go.RowKit
set_option linter.unusedVariables false

theorem chg_refl (B T : Nat) (W : World) : Chg B T W W := ⟨none, World.grownBy.refl _ _, fun j hj => by cases hj⟩
theorem chg_none {B T : Nat} {W W' : World} (h : W.grownBy W' none) : Chg B T W W' := ⟨none, h, fun j hj => by cases hj⟩
theorem chg_some {B T g : Nat} {W W' : World} (h : W.grownBy W' (some g)) (h1 : B ≤ g) (h2 : g < T) : Chg B T W W' := ⟨some g, h, fun j hj => by injection hj; omega⟩
def SNil (T : Nat) : St := fun _ _ W => T ≤ W.heap.size
theorem orc_nil (B T : Nat) (hBT : B ≤ T) : Orc none none B T (SNil T) where
  stay := fun f f2 W W' row h g _ => Nat.le_trans h g.size
  size := fun f f2 W h => ⟨hBT, h⟩
  byte := fun f pa _ _ => ⟨0, 1, fun W h => ⟨Byte_nil (Or.inl rfl) pa, rByte_nil W pa⟩⟩
  load := fun f pa size _ _ _ _ => ⟨0, 1, fun W h => ⟨Load_nil (Or.inl rfl) pa size, rLoad_nil W pa size⟩⟩
  setb := fun f pa b _ _ _ _ => ⟨f, 1, fun W f2 h => (SetByte_nil (Or.inl rfl) pa b).mono (by rintro e W' ⟨rfl, rfl⟩; exact ⟨rfl, h, chg_refl _ _ _⟩), fun W f1 h => (rSetByte_nil W pa b).mono (by rintro e W' ⟨rfl, rfl⟩; exact ⟨rfl, h, chg_refl _ _ _⟩)⟩
  store := fun f pa size v _ _ _ _ _ _ => ⟨f, 1, fun W f2 h => (Store_nil (Or.inl rfl) pa size v).mono (by rintro e W' ⟨rfl, rfl⟩; exact ⟨rfl, h, chg_refl _ _ _⟩), fun W f1 h => (rStore_nil W pa size v).mono (by rintro e W' ⟨rfl, rfl⟩; exact ⟨rfl, h, chg_refl _ _ _⟩)⟩
  zero := fun f k => ⟨f, 1, fun W f2 h => (Zero_nil (Or.inl rfl) k).mono (by rintro e W' ⟨rfl, rfl⟩; exact ⟨rfl, h, chg_refl _ _ _⟩), fun W f1 h => (rZero_nil W k).mono (by rintro e W' ⟨rfl, g⟩; exact ⟨rfl, Nat.le_trans h g.size, chg_none g⟩)⟩
  copy := fun f k j => ⟨f, 1, fun W f2 h => (Copy_nil (Or.inl rfl) k j).mono (by rintro e W' ⟨rfl, rfl⟩; exact ⟨rfl, h, chg_refl _ _ _⟩), fun W f1 h => (rCopy_nil W k j).mono (by rintro e W' ⟨rfl, rfl⟩; exact ⟨rfl, h, chg_refl _ _ _⟩)⟩
  page := fun f k => ⟨0, fun _ => 0, 1, by omega, fun W h => ⟨fun i hi => by omega, (Page_nil (Or.inl rfl) k).mono (by rintro e W' ⟨rfl, rfl⟩; exact ⟨none, rfl, Or.inl ⟨rfl, rfl⟩, World.grownBy.refl _ _⟩), (rPage_nil W k).mono (by rintro e W' ⟨rfl, rfl⟩; exact ⟨none, rfl, Or.inl ⟨rfl, rfl⟩, World.grownBy.refl _ _⟩)⟩⟩
  put := fun f k l h _ _ => ⟨f, 1, fun W f2 ao c hs _ => (Put_nil (Or.inl rfl) k _).mono (by rintro e W' ⟨rfl, rfl⟩; exact ⟨rfl, hs, chg_refl _ _ _⟩), fun W f1 ao c hs _ _ => (rPut_nil W k _).mono (by rintro e W' ⟨rfl, rfl⟩; exact ⟨rfl, hs, chg_refl _ _ _⟩)⟩

def SLive (p g q h n T : Nat) : St := fun f f2 W => Mem W p g n f ∧ Mem W q h n f2 ∧ T ≤ W.heap.size
structure Lay (p g q h n B T : Nat) : Prop where
  n1 : 1 ≤ n
  n2 : n ≤ 4096
  bt : B ≤ T
  p' : B ≤ p ∧ p < T
  g' : B ≤ g ∧ g < T
  q' : B ≤ q ∧ q < T
  h' : B ≤ h ∧ h < T
  gq : g ≠ q
  gh : g ≠ h
  ph : p ≠ h
theorem live_a {p g q h n B T : Nat} (L : Lay p g q h n B T) {f f' f2 : Nat → Int} {W W' : World} (hs : SLive p g q h n T f f2 W) (hM : Mem W' p g n f') (gr : W.grownBy W' (some g)) : SLive p g q h n T f' f2 W' ∧ Chg B T W W' :=
  ⟨⟨hM, hs.2.1.kept gr (some_ne L.gq.symm) (some_ne L.gh.symm), Nat.le_trans hs.2.2 gr.size⟩, chg_some gr L.g'.1 L.g'.2⟩
theorem live_b {p g q h n B T : Nat} (L : Lay p g q h n B T) {f1 f f' : Nat → Int} {W W' : World} (hs : SLive p g q h n T f1 f W) (hM : Mem W' q h n f') (gr : W.grownBy W' (some h)) : SLive p g q h n T f1 f' W' ∧ Chg B T W W' :=
  ⟨⟨hs.1.kept gr (some_ne L.ph) (some_ne L.gh), hM, Nat.le_trans hs.2.2 gr.size⟩, chg_some gr L.h'.1 L.h'.2⟩
theorem live_n {p g q h n T : Nat} {f f2 : Nat → Int} {W W' : World} (hs : SLive p g q h n T f f2 W) (gr : W.grownBy W' none) : SLive p g q h n T f f2 W' :=
  ⟨hs.1.kept gr (by simp) (by simp), hs.2.1.kept gr (by simp) (by simp), Nat.le_trans hs.2.2 gr.size⟩
theorem live_byte {p g q h n B T : Nat} (L : Lay p g q h n B T) (f : Nat → Int) (pa : Int) (h0 : 0 ≤ pa) (h1 : pa < 18446744073709551616) : ∃ v er, ∀ W, SLive p g q h n T f f W →
    (Calls Try.prog 17 #[.pointer (some ⟨p, 0, none⟩), .int .u64 pa] W fun e W' => e = .returned (.tuple #[.int .u8 v, .int .i64 er]) ∧ W' = W) ∧ (Calls Try.prog 26 #[.pointer (some ⟨q, 0, none⟩), .int .u64 pa] W fun e W' => e = .returned (.tuple #[.int .u8 v, .int .i64 er]) ∧ W' = W) := by
  obtain ⟨pa, rfl⟩ := Int.eq_ofNat_of_zero_le h0
  by_cases h : pa < n * 256
  · exact ⟨f pa, 0, fun W hs => ⟨Byte_ok hs.1 L.n2 pa h, rByte_ok hs.2.1 L.n2 pa h⟩⟩
  · exact ⟨0, 10, fun W hs => ⟨Byte_no hs.1 L.n1 L.n2 pa (by omega) h1, rByte_no hs.2.1 L.n1 L.n2 pa (by omega) h1⟩⟩
theorem live_load {p g q h n B T : Nat} (L : Lay p g q h n B T) (f : Nat → Int) (pa size : Int) (h0 : 0 ≤ pa) (h1 : pa < 18446744073709551616) (h2 : -9223372036854775808 ≤ size) (h3 : size < 9223372036854775808) : ∃ v er, ∀ W, SLive p g q h n T f f W →
    (Calls Try.prog 18 #[.pointer (some ⟨p, 0, none⟩), .int .u64 pa, .int .i64 size] W fun e W' => e = .returned (.tuple #[.int .u64 v, .int .i64 er]) ∧ W' = W) ∧ (Calls Try.prog 28 #[.pointer (some ⟨q, 0, none⟩), .int .u64 pa, .int .i64 size] W fun e W' => e = .returned (.tuple #[.int .u64 v, .int .i64 er]) ∧ W' = W) := by
  by_cases h : runE n pa size = 0
  · obtain ⟨a1, a2, a3, a4⟩ := runE_ok h
    obtain ⟨pa, rfl⟩ := Int.eq_ofNat_of_zero_le h0
    obtain ⟨size, rfl⟩ := Int.eq_ofNat_of_zero_le (show 0 ≤ size by omega)
    exact ⟨num f pa size, 0, fun W hs => ⟨Load_ok hs.1 L.n2 pa size (by omega) (by omega) (by omega), rLoad_ok hs.2.1 L.n2 pa size (by omega) (by omega) (by omega)⟩⟩
  · exact ⟨0, runE n pa size, fun W hs => ⟨Load_no hs.1 L.n1 L.n2 pa size h0 h1 h2 h3 h, rLoad_no hs.2.1 L.n1 L.n2 pa size h0 h1 h2 h3 h⟩⟩
theorem live_setb {p g q h n B T : Nat} (L : Lay p g q h n B T) (f : Nat → Int) (pa b : Int) (h0 : 0 ≤ pa) (h1 : pa < 18446744073709551616) (h2 : 0 ≤ b) (h3 : b < 256) :
    ∃ f' er, Mut (SLive p g q h n T) B T 15 27 #[.pointer (some ⟨p, 0, none⟩), .int .u64 pa, .int .u8 b] #[.pointer (some ⟨q, 0, none⟩), .int .u64 pa, .int .u8 b] f f' er := by
  obtain ⟨pa, rfl⟩ := Int.eq_ofNat_of_zero_le h0
  by_cases h : pa < n * 256
  · exact ⟨upd f pa b, 0, fun W f2 hs => (SetByte_ok hs.1 L.n2 pa h b h2 h3).mono (by rintro e W' ⟨rfl, hM, gr⟩; exact ⟨rfl, live_a L hs hM gr⟩), fun W f1 hs => (rSetByte_ok hs.2.1 L.n2 pa h b h2 h3).mono (by rintro e W' ⟨rfl, hM, gr⟩; exact ⟨rfl, live_b L hs hM gr⟩)⟩
  · exact ⟨f, 10, fun W f2 hs => (SetByte_no hs.1 L.n1 L.n2 pa (by omega) h1 b).mono (by rintro e W' ⟨rfl, rfl⟩; exact ⟨rfl, hs, chg_refl _ _ _⟩), fun W f1 hs => (rSetByte_no hs.2.1 L.n1 L.n2 pa (by omega) h1 b).mono (by rintro e W' ⟨rfl, rfl⟩; exact ⟨rfl, hs, chg_refl _ _ _⟩)⟩
theorem live_store {p g q h n B T : Nat} (L : Lay p g q h n B T) (f : Nat → Int) (pa size v : Int) (h0 : 0 ≤ pa) (h1 : pa < 18446744073709551616) (h2 : -9223372036854775808 ≤ size) (h3 : size < 9223372036854775808) (h4 : 0 ≤ v) (h5 : v < 18446744073709551616) :
    ∃ f' er, Mut (SLive p g q h n T) B T 16 29 #[.pointer (some ⟨p, 0, none⟩), .int .u64 pa, .int .i64 size, .int .u64 v] #[.pointer (some ⟨q, 0, none⟩), .int .u64 pa, .int .i64 size, .int .u64 v] f f' er := by
  by_cases h : runE n pa size = 0
  · obtain ⟨a1, a2, a3, a4⟩ := runE_ok h
    obtain ⟨pa, rfl⟩ := Int.eq_ofNat_of_zero_le h0
    obtain ⟨size, rfl⟩ := Int.eq_ofNat_of_zero_le (show 0 ≤ size by omega)
    exact ⟨lay f pa size (byt v), 0, fun W f2 hs => (Store_ok hs.1 L.n2 pa size (by omega) (by omega) (by omega) v h4 h5).mono (by rintro e W' ⟨rfl, hM, gr⟩; exact ⟨rfl, live_a L hs hM gr⟩), fun W f1 hs => (rStore_ok hs.2.1 L.n2 pa size (by omega) (by omega) (by omega) v h4 h5).mono (by rintro e W' ⟨rfl, hM, gr⟩; exact ⟨rfl, live_b L hs hM gr⟩)⟩
  · exact ⟨f, runE n pa size, fun W f2 hs => (Store_no hs.1 L.n1 L.n2 pa size v h0 h1 h2 h3 h).mono (by rintro e W' ⟨rfl, rfl⟩; exact ⟨rfl, hs, chg_refl _ _ _⟩), fun W f1 hs => (rStore_no hs.2.1 L.n1 L.n2 pa size v h0 h1 h2 h3 h).mono (by rintro e W' ⟨rfl, rfl⟩; exact ⟨rfl, hs, chg_refl _ _ _⟩)⟩
theorem live_zero {p g q h n B T : Nat} (L : Lay p g q h n B T) (f : Nat → Int) (k : Int) :
    ∃ f' er, Mut (SLive p g q h n T) B T 23 30 #[.pointer (some ⟨p, 0, none⟩), .int .i64 k] #[.pointer (some ⟨q, 0, none⟩), .int .i64 k] f f' er := by
  by_cases hk : 0 ≤ k ∧ k < n
  · obtain ⟨k, rfl⟩ := Int.eq_ofNat_of_zero_le hk.1
    exact ⟨lay f (k * 256) 256 (fun _ => 0), 0, fun W f2 hs => (Zero_ok hs.1 L.n2 k (by omega)).mono (by rintro e W' ⟨rfl, hM, gr⟩; exact ⟨rfl, live_a L hs hM gr⟩), fun W f1 hs => (rZero_ok hs.2.1 L.n2 k (by omega)).mono (by rintro e W' ⟨rfl, hM, gr⟩; exact ⟨rfl, live_b L hs hM gr⟩)⟩
  · exact ⟨f, 2, fun W f2 hs => (Zero_no hs.1 L.n1 L.n2 k hk).mono (by rintro e W' ⟨rfl, rfl⟩; exact ⟨rfl, hs, chg_refl _ _ _⟩), fun W f1 hs => (rZero_no hs.2.1 L.n1 L.n2 k hk).mono (by rintro e W' ⟨rfl, gr⟩; exact ⟨rfl, live_n hs gr, chg_none gr⟩)⟩
theorem live_copy {p g q h n B T : Nat} (L : Lay p g q h n B T) (f : Nat → Int) (k j : Int) :
    ∃ f' er, Mut (SLive p g q h n T) B T 19 31 #[.pointer (some ⟨p, 0, none⟩), .int .i64 k, .int .i64 j] #[.pointer (some ⟨q, 0, none⟩), .int .i64 k, .int .i64 j] f f' er := by
  by_cases hk : 0 ≤ k ∧ k < n ∧ 0 ≤ j ∧ j < n
  · obtain ⟨k, rfl⟩ := Int.eq_ofNat_of_zero_le hk.1
    obtain ⟨j, rfl⟩ := Int.eq_ofNat_of_zero_le hk.2.2.1
    exact ⟨lay f (k * 256) 256 (fun i => f (j * 256 + i)), 0, fun W f2 hs => (Copy_ok hs.1 L.n2 k j (by omega) (by omega)).mono (by rintro e W' ⟨rfl, hM, gr⟩; exact ⟨rfl, live_a L hs hM gr⟩), fun W f1 hs => (rCopy_ok hs.2.1 L.n2 k j (by omega) (by omega)).mono (by rintro e W' ⟨rfl, hM, gr⟩; exact ⟨rfl, live_b L hs hM gr⟩)⟩
  · exact ⟨f, 2, fun W f2 hs => (Copy_no hs.1 L.n1 L.n2 k j hk).mono (by rintro e W' ⟨rfl, rfl⟩; exact ⟨rfl, hs, chg_refl _ _ _⟩), fun W f1 hs => (rCopy_no hs.2.1 L.n1 L.n2 k j hk).mono (by rintro e W' ⟨rfl, rfl⟩; exact ⟨rfl, hs, chg_refl _ _ _⟩)⟩
theorem live_page {p g q h n B T : Nat} (L : Lay p g q h n B T) (f : Nat → Int) (k : Int) : ∃ l u er, l ≤ 256 ∧ (∀ W, SLive p g q h n T f f W → okB l u ∧ (Calls Try.prog 20 #[.pointer (some ⟨p, 0, none⟩), .int .i64 k] W (Pg W l u er)) ∧ (Calls Try.prog 33 #[.pointer (some ⟨q, 0, none⟩), .int .i64 k] W (Pg W l u er))) := by
  by_cases hk : 0 ≤ k ∧ k < n
  · obtain ⟨k, rfl⟩ := Int.eq_ofNat_of_zero_le hk.1
    refine ⟨256, fun i => f (k * 256 + i), 0, Nat.le_refl _, fun W hs => ⟨fun i hi => hs.1.ok _ (by omega), (Page_ok hs.1 L.n2 k (by omega)).mono ?_, (rPage_ok hs.2.1 L.n2 k (by omega)).mono ?_⟩⟩
    · rintro e W' ⟨b, rfl, hB, gr, hb⟩
      exact ⟨_, rfl, Or.inr ⟨b, rfl, hB, hb⟩, gr⟩
    · rintro e W' ⟨b, rfl, hB, gr, hb⟩
      exact ⟨_, rfl, Or.inr ⟨b, rfl, hB, hb⟩, gr⟩
  · exact ⟨0, fun _ => 0, 2, by omega, fun W hs => ⟨fun i hi => by omega, (Page_no hs.1 L.n1 L.n2 k hk).mono (by rintro e W' ⟨rfl, rfl⟩; exact ⟨none, rfl, Or.inl ⟨rfl, rfl⟩, World.grownBy.refl _ _⟩), (rPage_no hs.2.1 L.n1 L.n2 k hk).mono (by rintro e W' ⟨rfl, rfl⟩; exact ⟨none, rfl, Or.inl ⟨rfl, rfl⟩, World.grownBy.refl _ _⟩)⟩⟩
theorem live_put {p g q h n B T : Nat} (L : Lay p g q h n B T) (f : Nat → Int) (k : Int) (l : Nat) (u : Nat → Int) (hl : l ≤ maxLen) (hu : okB l u) : ∃ f' er,
    (∀ W f2 ao c, SLive p g q h n T f f2 W → Arg W ao l u → Calls Try.prog 22 #[.pointer (some ⟨p, 0, none⟩), .int .i64 k, .slice ao l c] W fun e W' => e = .returned (.int .i64 er) ∧ SLive p g q h n T f' f2 W' ∧ Chg B T W W') ∧
    (∀ W f1 ao c, SLive p g q h n T f1 f W → Arg W ao l u → (∀ b off, ao = some ⟨b, off, none⟩ → l = 0 ∨ b < B ∨ T ≤ b) → Calls Try.prog 38 #[.pointer (some ⟨q, 0, none⟩), .int .i64 k, .slice ao l c] W fun e W' => e = .returned (.int .i64 er) ∧ SLive p g q h n T f1 f' W' ∧ Chg B T W W') := by
  by_cases hk : 0 ≤ k ∧ k < n
  · obtain ⟨k, rfl⟩ := Int.eq_ofNat_of_zero_le hk.1
    by_cases hl2 : l = 256
    · subst hl2
      refine ⟨lay f (k * 256) 256 u, 0, fun W f2 ao c hs ha => ?_, fun W f1 ao c hs ha hlow => ?_⟩
      · rcases ha with h0 | ⟨b, off, rfl, hr⟩
        · omega
        · exact (Put_ok hs.1 L.n2 k (by omega) b off c u hr hu).mono (by rintro e W' ⟨rfl, hM, gr⟩; exact ⟨rfl, live_a L hs hM gr⟩)
      · rcases ha with h0 | ⟨b, off, rfl, hr⟩
        · omega
        · have hb := hlow b off rfl
          have hh := L.h'
          exact (rPut_ok hs.2.1 L.n2 k (by omega) b off c u hr hu (by omega)).mono (by rintro e W' ⟨rfl, hM, gr⟩; exact ⟨rfl, live_b L hs hM gr⟩)
    · exact ⟨f, 2, fun W f2 ao c hs _ => (Put_len hs.1 L.n1 L.n2 k (by omega) ao l c hl2 hl).mono (by rintro e W' ⟨rfl, rfl⟩; exact ⟨rfl, hs, chg_refl _ _ _⟩), fun W f1 ao c hs _ _ => (rPut_len hs.2.1 L.n1 L.n2 k (by omega) ao l c hl2 hl).mono (by rintro e W' ⟨rfl, rfl⟩; exact ⟨rfl, hs, chg_refl _ _ _⟩)⟩
  · exact ⟨f, 2, fun W f2 ao c hs _ => (Put_no hs.1 L.n1 L.n2 k hk _).mono (by rintro e W' ⟨rfl, rfl⟩; exact ⟨rfl, hs, chg_refl _ _ _⟩), fun W f1 ao c hs _ _ => (rPut_no hs.2.1 L.n1 L.n2 k hk _).mono (by rintro e W' ⟨rfl, rfl⟩; exact ⟨rfl, hs, chg_refl _ _ _⟩)⟩
theorem orc_live {p g q h n B T : Nat} (L : Lay p g q h n B T) : Orc (some ⟨p, 0, none⟩) (some ⟨q, 0, none⟩) B T (SLive p g q h n T) where
  stay := fun f f2 W W' row hs gr hr => by
    have nn : ∀ x, B ≤ x ∧ x < T → some x ≠ row := fun x hx e => by have := hr x e.symm; omega
    exact ⟨hs.1.kept gr (nn p L.p') (nn g L.g'), hs.2.1.kept gr (nn q L.q') (nn h L.h'), Nat.le_trans hs.2.2 gr.size⟩
  size := fun f f2 W hs => ⟨L.bt, hs.2.2⟩
  byte := live_byte L
  load := live_load L
  setb := live_setb L
  store := live_store L
  zero := live_zero L
  copy := live_copy L
  page := live_page L
  put := live_put L
end Go.Proofs.Ytbfagelmijimeaa
