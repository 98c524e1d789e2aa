/- Disks that are none, and disks that New made, answer alike: the two cases of what a step asks. -/
import Derived.Test.YtimmckdghihcjaaOr
namespace Go.Proofs.Ytimmckdghihcjaa
open Go.ChangeShapes Go.WideShapes Go.ChangeAt Go.RowKit
set_option linter.unusedVariables false

theorem ch_refl (B : Nat) (A : List Nat) (W : World) : Ch2 B A W W := ⟨none, World.grownBy.refl _ _, fun j hj => by cases hj⟩
theorem ch_none {B : Nat} {A : List Nat} {W W' : World} (h : W.grownBy W' none) : Ch2 B A W W' := ⟨none, h, fun j hj => by cases hj⟩
theorem ch_some {B g : Nat} {A : List Nat} {W W' : World} (h : W.grownBy W' (some g)) (h1 : B ≤ g) (h2 : g ∉ A) : Ch2 B A W W' := ⟨some g, h, fun j hj => by injection hj with e; subst e; exact ⟨h1, h2⟩⟩
def SNil (B : Nat) : St := fun _ _ T A W => B ≤ T ∧ T ≤ W.heap.size
theorem is_nil (w : World) : Is w w.heap.size (.slice none 0 0) [] := World.ownsRow_nil _ _ _ _
theorem orc_nil (B : Nat) : Orc none none B (SNil B) where
  stay := fun m m2 T A W W' row h g _ => ⟨h.1, Nat.le_trans h.2 g.size⟩
  size := fun m m2 T A W h => h
  up := fun m m2 T A W h => ⟨Nat.le_trans h.1 h.2, Nat.le_refl _⟩
  add := fun m m2 T A W x h _ _ => h
  sub := fun m m2 T A W x h => h
  read := fun m k => ⟨0, fun _ => 0, 1, by omega, fun W T A h => ⟨fun i hi => by omega, (Read_nil (Or.inl rfl) k).mono (by rintro e W' ⟨rfl, rfl⟩; exact ⟨none, rfl, Or.inl ⟨rfl, rfl⟩, World.grownBy.refl _ _⟩), (rRead_nil W k).mono (by rintro e W' ⟨rfl, rfl⟩; exact ⟨none, 0, rfl, Or.inl ⟨rfl, rfl⟩, World.grownBy.refl _ _⟩)⟩⟩
  write := fun m k l h _ _ => ⟨m, 1, fun W m2 T A ao c hs _ _ => (Write_nil (Or.inl rfl) k _).mono (by rintro e W' ⟨rfl, rfl⟩; exact ⟨rfl, hs, ch_refl _ _ _⟩), fun W m1 T A ao c hs _ => (rWrite_nil W k _).mono (by rintro e W' ⟨rfl, rfl⟩; exact ⟨rfl, ⟨Nat.le_trans hs.1 hs.2, Nat.le_refl _⟩, ch_refl _ _ _⟩)⟩
  erase := fun m k => ⟨m, 1, fun W m2 T A hs => (Erase_nil (Or.inl rfl) k).mono (by rintro e W' ⟨rfl, rfl⟩; exact ⟨rfl, hs, ch_refl _ _ _⟩), fun W m1 T A hs => (rErase_nil W k).mono (by rintro e W' ⟨rfl, rfl⟩; exact ⟨rfl, hs, ch_refl _ _ _⟩)⟩
  used := fun m => ⟨[], by simp, fun W T A h => ⟨(Used_nil (Or.inl rfl)).mono (by rintro e W' ⟨rfl, rfl⟩; exact ⟨_, rfl, is_nil _, World.grownBy.refl _ _⟩), (rUsed_nil W).mono (by rintro e W' ⟨rfl, rfl⟩; exact ⟨_, rfl, is_nil _, World.grownBy.refl _ _⟩)⟩⟩

/-- Both disks are there. -/
structure SLive (p b q g N B : Nat) (m m2 : Slots) (T : Nat) (A : List Nat) (W : World) : Prop where
  d : Dk W p b N m
  r : Rk W q g N m2 T (b :: A)
  p' : p < T ∧ p ∉ A
  b' : b < T ∧ b ∉ A
structure Lay (p b q g B : Nat) : Prop where
  bb : B ≤ b
  bg : B ≤ g
  bq : B ≤ q
  pg' : p ≠ g
theorem SLive.gb {p b q g N B : Nat} {m m2 : Slots} {T : Nat} {A : List Nat} {W : World} (h : SLive p b q g N B m m2 T A W) : g ≠ b ∧ g ∉ A := ⟨fun e => h.r.g'.2 (by rw [e]; exact List.mem_cons_self), fun e => h.r.g'.2 (List.mem_cons_of_mem _ e)⟩
theorem live_a {p b q g N B : Nat} (L : Lay p b q g B) {m m' m2 : Slots} {T : Nat} {A : List Nat} {W W' : World} (hs : SLive p b q g N B m m2 T A W) (hM : Dk W' p b N m') (gr : W.grownBy W' (some b)) : SLive p b q g N B m' m2 T A W' ∧ Ch2 B A W W' :=
  ⟨⟨hM, hs.r.kept gr (fun j hj => by injection hj with e; subst e; exact Or.inr (List.mem_cons_self)), hs.p', hs.b'⟩, ch_some gr L.bb hs.b'.2⟩
theorem live_b {p b q g N B : Nat} (L : Lay p b q g B) {m m2 m' : Slots} {T T' : Nat} {A : List Nat} {W W' : World} (hs : SLive p b q g N B m m2 T A W) (hM : Rk W' q g N m' T' (b :: A)) (hT : T ≤ T') (gr : W.grownBy W' (some g)) : SLive p b q g N B m m' T' A W' ∧ Ch2 B A W W' :=
  ⟨⟨hs.d.kept gr (some_ne L.pg') (some_ne hs.gb.1.symm), hM, ⟨by have := hs.p'.1; omega, hs.p'.2⟩, ⟨by have := hs.b'.1; omega, hs.b'.2⟩⟩, ch_some gr L.bg hs.gb.2⟩
theorem live_n {p b q g N B : Nat} {m m2 : Slots} {T : Nat} {A : List Nat} {W W' : World} (hs : SLive p b q g N B m m2 T A W) (gr : W.grownBy W' none) : SLive p b q g N B m m2 T A W' :=
  ⟨hs.d.kept gr (by simp) (by simp), hs.r.kept gr (by simp), hs.p', hs.b'⟩
theorem live_read {p b q g N B : Nat} (L : Lay p b q g B) (m : Slots) (k : Int) : ∃ l u er, l ≤ 256 ∧ (∀ W T A, SLive p b q g N B m m T A W → okB l u ∧ (Calls Try.prog 19 #[.pointer (some ⟨p, 0, none⟩), .int .i64 k] W (Pg W l u er)) ∧ (Calls Try.prog 28 #[.pointer (some ⟨q, 0, none⟩), .int .i64 k] W (PgR W l u er))) := by
  by_cases hk : 0 ≤ k ∧ k < N
  · obtain ⟨k, rfl⟩ := Int.eq_ofNat_of_zero_le hk.1
    cases hm : m k with
    | none =>
      refine ⟨0, fun _ => 0, 60, by omega, fun W T A hs => ⟨fun i hi => by omega, (Read_none hs.d k (by omega) hm).mono ?_, (rRead_none hs.r k (by omega) hm).mono ?_⟩⟩
      · rintro e W' ⟨rfl, gr⟩
        exact ⟨none, rfl, Or.inl ⟨rfl, rfl⟩, gr⟩
      · rintro e W' ⟨rfl, rfl⟩
        exact ⟨none, 0, rfl, Or.inl ⟨rfl, rfl⟩, World.grownBy.refl _ _⟩
    | some u =>
      refine ⟨256, u, 0, Nat.le_refl _, fun W T A hs => ⟨(hs.d.mp.ok hm).2, (Read_ok hs.d k u hm).mono ?_, (rRead_ok hs.r k u hm).mono ?_⟩⟩
      · rintro e W' ⟨rfl, hB, gr⟩
        exact ⟨_, rfl, Or.inr ⟨_, rfl, hB, Nat.le_refl _⟩, gr⟩
      · rintro e W' ⟨x, c, rfl, _, hB, hx, gr⟩
        exact ⟨_, c, rfl, Or.inr ⟨x, rfl, hB, hx⟩, gr⟩
  · refine ⟨0, fun _ => 0, 2, by omega, fun W T A hs => ⟨fun i hi => by omega, (Read_no hs.d k hk).mono ?_, (rRead_no hs.r k hk).mono ?_⟩⟩
    · rintro e W' ⟨rfl, rfl⟩
      exact ⟨none, rfl, Or.inl ⟨rfl, rfl⟩, World.grownBy.refl _ _⟩
    · rintro e W' ⟨rfl, rfl⟩
      exact ⟨none, 0, rfl, Or.inl ⟨rfl, rfl⟩, World.grownBy.refl _ _⟩
theorem SLive.up {p b q g N B : Nat} {m m2 : Slots} {T : Nat} {A : List Nat} {W : World} (h : SLive p b q g N B m m2 T A W) : SLive p b q g N B m m2 W.heap.size A W := by
  have ht := h.r.t
  exact ⟨h.d, h.r.up ht (Nat.le_refl _), ⟨by have := h.p'.1; omega, h.p'.2⟩, ⟨by have := h.b'.1; omega, h.b'.2⟩⟩
theorem live_write {p b q g N B : Nat} (L : Lay p b q g B) (m : Slots) (k : Int) (l : Nat) (h : Nat → Int) (hl : l ≤ maxLen) (hh : okB l h) : ∃ m' er,
    (∀ W m2 T A ao c, SLive p b q g N B m m2 T A W → Arg W ao l h → (∀ b off, ao = some ⟨b, off, none⟩ → l = 0 ∨ b ∈ A) → Calls Try.prog 17 #[.pointer (some ⟨p, 0, none⟩), .int .i64 k, .slice ao l c] W fun e W' => e = .returned (.int .i64 er) ∧ SLive p b q g N B m' m2 T A W' ∧ Ch2 B A W W') ∧
    (∀ W m1 T A ao c, SLive p b q g N B m1 m T A W → Arg W ao l h → Calls Try.prog 30 #[.pointer (some ⟨q, 0, none⟩), .int .i64 k, .slice ao l c] W fun e W' => e = .returned (.int .i64 er) ∧ SLive p b q g N B m1 m' W'.heap.size A W' ∧ Ch2 B A W W') := by
  by_cases hk : 0 ≤ k ∧ k < N
  · obtain ⟨k, rfl⟩ := Int.eq_ofNat_of_zero_le hk.1
    by_cases hl2 : l = 256
    · subst hl2
      refine ⟨pt m k (some h), 0, fun W m2 T A ao c hs ha hin => ?_, fun W m1 T A ao c hs ha => ?_⟩
      · rcases ha with h0 | ⟨bb, off, rfl, hr⟩
        · omega
        · have hb : bb ≠ b := by
            rcases hin bb off rfl with h0 | h0
            · omega
            · intro e; subst e; exact hs.b'.2 h0
          exact (Write_ok hs.d k (by omega) bb off c h hr hh hb).mono (by rintro e W' ⟨rfl, hD, gr⟩; exact ⟨rfl, live_a L hs hD gr⟩)
      · rcases ha with h0 | ⟨bb, off, rfl, hr⟩
        · omega
        · exact (rWrite_ok hs.r k (by omega) bb off c h hr hh).mono (by rintro e W' ⟨rfl, hD, gr⟩; exact ⟨rfl, live_b L hs hD (Nat.le_trans hs.r.t gr.size) gr⟩)
    · exact ⟨m, 2, fun W m2 T A ao c hs _ _ => (Write_len hs.d k (by omega) ao l c hl2 hl).mono (by rintro e W' ⟨rfl, rfl⟩; exact ⟨rfl, hs, ch_refl _ _ _⟩), fun W m1 T A ao c hs _ => (rWrite_len hs.r k (by omega) ao l c hl2 hl).mono (by rintro e W' ⟨rfl, rfl⟩; exact ⟨rfl, hs.up, ch_refl _ _ _⟩)⟩
  · exact ⟨m, 2, fun W m2 T A ao c hs _ _ => (Write_no hs.d k hk _).mono (by rintro e W' ⟨rfl, rfl⟩; exact ⟨rfl, hs, ch_refl _ _ _⟩), fun W m1 T A ao c hs _ => (rWrite_no hs.r k hk _).mono (by rintro e W' ⟨rfl, rfl⟩; exact ⟨rfl, hs.up, ch_refl _ _ _⟩)⟩
theorem live_erase {p b q g N B : Nat} (L : Lay p b q g B) (m : Slots) (k : Int) : ∃ m' er,
    (∀ W m2 T A, SLive p b q g N B m m2 T A W → Calls Try.prog 20 #[.pointer (some ⟨p, 0, none⟩), .int .i64 k] W fun e W' => e = .returned (.int .i64 er) ∧ SLive p b q g N B m' m2 T A W' ∧ Ch2 B A W W') ∧
    (∀ W m1 T A, SLive p b q g N B m1 m T A W → Calls Try.prog 25 #[.pointer (some ⟨q, 0, none⟩), .int .i64 k] W fun e W' => e = .returned (.int .i64 er) ∧ SLive p b q g N B m1 m' T A W' ∧ Ch2 B A W W') := by
  by_cases hk : 0 ≤ k ∧ k < N
  · obtain ⟨k, rfl⟩ := Int.eq_ofNat_of_zero_le hk.1
    cases hm : m k with
    | none => exact ⟨m, 60, fun W m2 T A hs => (Erase_none hs.d k (by omega) hm).mono (by rintro e W' ⟨rfl, gr⟩; exact ⟨rfl, live_n hs gr, ch_none gr⟩), fun W m1 T A hs => (rErase_none hs.r k (by omega) hm).mono (by rintro e W' ⟨rfl, rfl⟩; exact ⟨rfl, hs, ch_refl _ _ _⟩)⟩
    | some u => exact ⟨pt m k none, 0, fun W m2 T A hs => (Erase_ok hs.d k u hm).mono (by rintro e W' ⟨rfl, hD, gr⟩; exact ⟨rfl, live_a L hs hD gr⟩), fun W m1 T A hs => (rErase_ok hs.r k u hm).mono (by rintro e W' ⟨rfl, hD, gr⟩; exact ⟨rfl, live_b L hs hD (Nat.le_refl _) gr⟩)⟩
  · exact ⟨m, 2, fun W m2 T A hs => (Erase_no hs.d k hk).mono (by rintro e W' ⟨rfl, rfl⟩; exact ⟨rfl, hs, ch_refl _ _ _⟩), fun W m1 T A hs => (rErase_no hs.r k hk).mono (by rintro e W' ⟨rfl, rfl⟩; exact ⟨rfl, hs, ch_refl _ _ _⟩)⟩
theorem orc_live {p b q g N B : Nat} (L : Lay p b q g B) (hN : N ≤ 1024) : Orc (some ⟨p, 0, none⟩) (some ⟨q, 0, none⟩) B (SLive p b q g N B) where
  stay := fun m m2 T A W W' row hs gr hr => by
    have nn : ∀ x, x < T ∧ x ∉ A → some x ≠ row := fun x hx e => by rcases hr x e.symm with r | r; omega; exact hx.2 r
    exact ⟨hs.d.kept gr (nn p hs.p') (nn b hs.b'), hs.r.kept gr (fun j hj => by rcases hr j hj with r | r; exact Or.inl r; exact Or.inr (List.mem_cons_of_mem _ r)), hs.p', hs.b'⟩
  size := fun m m2 T A W hs => ⟨by have := hs.r.g'.1; have := L.bg; omega, hs.r.t⟩
  up := fun m m2 T A W hs => hs.up
  add := fun m m2 T A W x hs h1 h2 => ⟨hs.d, (hs.r.add h1 h2).sub (fun y hy => by simp only [List.mem_cons] at hy ⊢; rcases hy with r | r | r; exact Or.inr (Or.inl r); exact Or.inl r; exact Or.inr (Or.inr r)), ⟨hs.p'.1, fun y => by rcases List.mem_cons.1 y with r | r; have := hs.p'.1; omega; exact hs.p'.2 r⟩, ⟨hs.b'.1, fun y => by rcases List.mem_cons.1 y with r | r; have := hs.b'.1; omega; exact hs.b'.2 r⟩⟩
  sub := fun m m2 T A W x hs => ⟨hs.d, hs.r.sub (fun y hy => by rcases List.mem_cons.1 hy with r | r; rw [r]; exact List.mem_cons_self; exact List.mem_cons_of_mem _ (List.mem_cons_of_mem _ r)), ⟨hs.p'.1, fun y => hs.p'.2 (List.mem_cons_of_mem _ y)⟩, ⟨hs.b'.1, fun y => hs.b'.2 (List.mem_cons_of_mem _ y)⟩⟩
  read := live_read L
  write := live_write L
  erase := live_erase L
  used := fun m => ⟨usI N m, Nat.le_trans (us_len N m) hN, fun W T A hs => ⟨Used_any hs.d, rUsed_any hs.r⟩⟩
end Go.Proofs.Ytimmckdghihcjaa
