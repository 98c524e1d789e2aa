/- The program's buddy and the reference's, side by side: one answer of both for each Take and each Give; no condition but those that each theorem names. -/
import Derived.Test.YtdlkmeopiilmdaaLq
namespace Go.Proofs.Ytdlkmeopiilmdaa
open Go.ChangeShapes Go.WideShapes Go.ChangeAt Go.RowKit
set_option linter.unusedVariables false

theorem take_case (L : Nat → List Nat) (o : Nat) : (∀ i, o ≤ i → i ≤ 6 → L i = []) ∨ ∃ k a r, o ≤ k ∧ k ≤ 6 ∧ (∀ i, o ≤ i → i < k → L i = []) ∧ L k = a :: r := by
  by_cases h : ∃ k, o ≤ k ∧ k ≤ 6 ∧ L k ≠ []
  · right
    obtain ⟨k, h1, h2, h3⟩ := h
    have key : ∀ d, ∀ k, k = o + d → k ≤ 6 → L k ≠ [] → ∃ k a r, o ≤ k ∧ k ≤ 6 ∧ (∀ i, o ≤ i → i < k → L i = []) ∧ L k = a :: r := by
      intro d
      induction d using Nat.strongRecOn with
      | _ d ih =>
        intro k e hk hL
        by_cases q : ∃ i, o ≤ i ∧ i < k ∧ L i ≠ []
        · obtain ⟨i, q1, q2, q3⟩ := q
          exact ih (i - o) (by omega) i (by omega) (by omega) q3
        · cases hl : L k with
          | nil => exact absurd hl hL
          | cons a r =>
            refine ⟨k, a, r, by omega, hk, fun i q1 q2 => ?_, hl⟩
            by_cases q4 : L i = []
            · exact q4
            · exact absurd ⟨i, q1, q2, q4⟩ q
    exact key (k - o) k (by omega) h2 h3
  · left
    intro i h1 h2
    by_cases q : L i = []
    · exact q
    · exact absurd ⟨i, h1, h2, q⟩ h
theorem Re.parts {w : World} {H : Nat → Prop} {q n : Nat} {op : Nat → Bool} {tk : Nat → Option Nat} (h : Re w H q n op tk) : ∃ go gt, Rb w q go gt n op tk ∧ ∀ k, H k ↔ k = q ∨ k = go ∨ k = gt := h
theorem Re.back {w w' : World} {H : Nat → Prop} {q n go gt : Nat} {op' : Nat → Bool} {tk' : Nat → Option Nat} (hH : ∀ k, H k ↔ k = q ∨ k = go ∨ k = gt) (h : Rb w' q go gt n op' tk') (K : Kp (fun k => k = go ∨ k = gt) (fun k => k = go ∨ k = gt) w w') : Re w' H q n op' tk' ∧ Kp H H w w' :=
  ⟨⟨go, gt, h, hH⟩, ⟨K.os, K.tape, K.output, K.size, fun k hk hn => K.block k hk (fun z => hn ((hH k).2 (Or.inr z))), fun k z => Or.inl z⟩⟩
/-- One answer of both. -/
structure Tk2 (n : Nat) (op : Nat → Bool) (L : Nat → List Nat) (tk : Nat → Option Nat) (o a e : Int) (op' : Nat → Bool) (L' : Nat → List Nat) (tk' : Nat → Option Nat) : Prop where
  st : St n op' L' tk'
  prog : ∀ (w : World) (G : Nat → Prop) (p : Nat), Bu w G p L tk → Calls Try.prog 11 #[.pointer (some ⟨p, 0, none⟩), .int .i64 o] w fun en w' => en = .returned (.tuple #[.int .i64 a, .int .i64 e]) ∧ ∃ G', Bu w' G' p L' tk' ∧ Kp G G' w w'
  ref : ∀ (w : World) (H : Nat → Prop) (q : Nat), Re w H q n op tk → Calls Try.prog 12 #[.pointer (some ⟨q, 0, none⟩), .int .i64 o] w fun en w' => en = .returned (.tuple #[.int .i64 a, .int .i64 e]) ∧ Re w' H q n op' tk' ∧ Kp H H w w'
  ok : e = 0 → 0 ≤ a ∧ a < 4096 ∧ 0 ≤ o ∧ o ≤ 6
  ra : 0 ≤ a ∧ a < 4096
  re : 0 ≤ e ∧ e ≤ 90
theorem take_both {n : Nat} {op : Nat → Bool} {L : Nat → List Nat} {tk : Nat → Option Nat} (hS : St n op L tk) (hn : n ≤ 4096) (o : Int) : ∃ a e op' L' tk', Tk2 n op L tk o a e op' L' tk' := by
  by_cases hr : 0 ≤ o ∧ o ≤ 6
  · obtain ⟨x, rfl⟩ : ∃ x : Nat, o = x := ⟨o.toNat, by omega⟩
    rcases take_case L x with he | ⟨k, a, r, h1, h2, h3, h4⟩
    · refine ⟨0, 90, op, L, tk, hS, fun w G p hB => (Take_none hB x (by omega) he).mono ?_, fun w H q hR => ?_, fun h => by omega, by omega, by omega⟩
      · rintro e w' ⟨rfl, rfl⟩
        exact ⟨rfl, G, hB, Kp.refl _ _⟩
      · obtain ⟨go, gt, hb, hH⟩ := hR
        refine (rTake_none hb hS.lt hS.fit x (by omega) he).mono ?_
        rintro e w' ⟨rfl, g⟩
        exact ⟨rfl, Re.none ⟨go, gt, hb, hH⟩ g, Kp.of_none g⟩
    · obtain ⟨st, hw, hm, hb, ht, _⟩ := hS.take h1 h2 h3 h4
      have hpos := Nat.two_pow_pos x
      refine ⟨a, 0, _, _, _, st, fun w G p hB => Take_ok hB (hS.len hn) x k a r h1 h2 h3 h4 (by omega), fun w H q hR => ?_, fun _ => by omega, by omega, by omega⟩
      obtain ⟨go, gt, hb', hH⟩ := hR
      refine (rTake_ok hb' hS.lt hS.fit x k a r h1 h2 h3 h4 hm hb).mono ?_
      rintro e w' ⟨rfl, q1, q2⟩
      exact ⟨rfl, Re.back hH q1 q2⟩
  · refine ⟨0, 2, op, L, tk, hS, fun w G p hB => (Take_no hB o (by omega)).mono ?_, fun w H q hR => (rTake_no q o (by omega)).mono ?_, fun h => by omega, by omega, by omega⟩
    · rintro e w' ⟨rfl, rfl⟩
      exact ⟨rfl, G, hB, Kp.refl _ _⟩
    · rintro e w' ⟨rfl, rfl⟩
      exact ⟨rfl, hR, Kp.refl _ _⟩
structure Gv2 (n : Nat) (op : Nat → Bool) (L : Nat → List Nat) (tk : Nat → Option Nat) (a o e : Int) (op' : Nat → Bool) (tk' : Nat → Option Nat) : Prop where
  prog : ∀ (w : World) (G : Nat → Prop) (p : Nat), Bu w G p L tk → Calls Try.prog 13 #[.pointer (some ⟨p, 0, none⟩), .int .i64 a, .int .i64 o] w fun en w' => en = .returned (.int .i64 e) ∧ ∃ L' G', St n op' L' tk' ∧ Bu w' G' p L' tk' ∧ Kp G G' w w'
  ref : ∀ (w : World) (H : Nat → Prop) (q : Nat), Re w H q n op tk → Calls Try.prog 14 #[.pointer (some ⟨q, 0, none⟩), .int .i64 a, .int .i64 o] w fun en w' => en = .returned (.int .i64 e) ∧ Re w' H q n op' tk' ∧ Kp H H w w'
  re : 0 ≤ e ∧ e ≤ 91
theorem give_both {n : Nat} {op : Nat → Bool} {L : Nat → List Nat} {tk : Nat → Option Nat} (hS : St n op L tk) (hn : n ≤ 4096) (a o : Int) (ha : a < 9223372036854775808) : ∃ e op' tk', Gv2 n op L tk a o e op' tk' := by
  by_cases hr : 0 ≤ o ∧ o ≤ 6 ∧ 0 ≤ a
  · obtain ⟨x, rfl⟩ : ∃ x : Nat, a = x := ⟨a.toNat, by omega⟩
    obtain ⟨y, rfl⟩ : ∃ y : Nat, o = y := ⟨o.toNat, by omega⟩
    by_cases ht : tk x = some y
    · obtain ⟨h1, h2, h3, h4⟩ := hS.tk1 x y ht
      have hpos := Nat.two_pow_pos y
      refine ⟨0, opened op y (x / 2 ^ y), pt tk x none, fun w G p hB => ?_, fun w H q hR => ?_, by omega⟩
      · refine (Give_ok hB (hS.len hn) hS.up x y (by omega) h1 h2 ht).mono ?_
        rintro e w' ⟨rfl, J, hT, G', q1, q2⟩
        exact ⟨rfl, _, G', (hS.give ht hT).1, q1, q2⟩
      · obtain ⟨go, gt, hb', hH⟩ := hR
        refine (rGive_ok hb' x y h1 h2 h3 ht).mono ?_
        rintro e w' ⟨rfl, q1, q2⟩
        exact ⟨rfl, Re.back hH q1 q2⟩
    · have hno : ∀ (z u : Nat), (x : Int) = z → tk z = some u → (y : Int) ≠ u := fun z u e1 e2 e3 => by
        obtain rfl : x = z := by omega
        obtain rfl : y = u := by omega
        exact ht e2
      refine ⟨91, op, tk, fun w G p hB => (Give_tk hB x y (by omega) (by omega) (by omega) ha hno).mono ?_, fun w H q hR => ?_, by omega⟩
      · rintro e w' ⟨rfl, rfl⟩
        exact ⟨rfl, L, G, hS, hB, Kp.refl _ _⟩
      · obtain ⟨go, gt, hb', hH⟩ := hR
        refine (rGive_tk hb' x y (by omega) (by omega) (by omega) ha hno).mono ?_
        rintro e w' ⟨rfl, rfl⟩
        exact ⟨rfl, ⟨go, gt, hb', hH⟩, Kp.refl _ _⟩
  · refine ⟨2, op, tk, fun w G p hB => (Give_no hB a o (by omega)).mono ?_, fun w H q hR => (rGive_no q a o (by omega)).mono ?_, by omega⟩
    · rintro e w' ⟨rfl, rfl⟩
      exact ⟨rfl, L, G, hS, hB, Kp.refl _ _⟩
    · rintro e w' ⟨rfl, rfl⟩
      exact ⟨rfl, hR, Kp.refl _ _⟩
theorem cnt_full {op : Nat → Bool} : ∀ n, cnt op n = n → ∀ i, i < n → op i = true
  | 0, _, i, hi => by omega
  | n + 1, h, i, hi => by
    have hl := cnt_le op n
    simp only [cnt] at h
    by_cases e : op n
    · rw [if_pos e] at h
      by_cases q : i = n
      · rw [q]; exact e
      · exact cnt_full n (by omega) i (by omega)
    · rw [if_neg e] at h
      omega
theorem cnt_all {op : Nat → Bool} : ∀ n, (∀ i, i < n → op i = true) → cnt op n = n
  | 0, _ => rfl
  | n + 1, h => by
    simp only [cnt]
    rw [cnt_all n (fun i hi => h i (by omega)), if_pos (h n (by omega))]
theorem St.whole {n : Nat} {op : Nat → Bool} {L : Nat → List Nat} {tk : Nat → Option Nat} (h : St n op L tk) : (∀ x, tk x = none) ↔ cnt op n = n := by
  constructor
  · intro q
    apply cnt_all
    intro i hi
    cases e : op i with
    | true => rfl
    | false =>
      obtain ⟨x, o, z, _⟩ := h.tk3 i hi e
      rw [q x] at z
      cases z
  · intro q x
    cases e : tk x with
    | none => rfl
    | some o =>
      obtain ⟨_, _, h3, h4⟩ := h.tk1 x o e
      have hpos := Nat.two_pow_pos o
      have := cnt_full n q x (by omega)
      rw [h4 x rfl] at this
      cases this
/-! ### Both, and the blocks that are noted as taken -/
def NP (P : Nat → Prop) : Nat → Prop := fun k => ¬ P k
/-- Both, and the notes v; what P says is none of theirs. -/
def Two (P : Nat → Prop) (w : World) (n p q : Nat) (v : Value) (L : Nat → List Nat) (tk : Nat → Option Nat) (op : Nat → Bool) (tk2 : Nat → Option Nat) (h : List (Int × Int)) : Prop :=
  ∃ G H, Bu w G p L tk ∧ Re w H q n op tk2 ∧ Hd w v h ∧ (∀ k, G k → ¬ H k) ∧ (∀ k, G k → v.ownBlock ≠ some k) ∧ (∀ k, H k → v.ownBlock ≠ some k) ∧ ∀ k, P k → ¬ G k ∧ ¬ H k ∧ v.ownBlock ≠ some k ∧ k < w.heap.size
theorem Two.new {P : Nat → Prop} {w w' : World} {n p q : Nat} {v : Value} {L : Nat → List Nat} {tk : Nat → Option Nat} {op : Nat → Bool} {tk2 : Nat → Option Nat} {h : List (Int × Int)} (T : Two P w n p q v L tk op tk2 h) (g : w.grownBy w' none) : Two P w' n p q v L tk op tk2 h ∧ Kp (NP P) (NP P) w w' := by
  obtain ⟨G, H, a1, a2, a3, a4, a5, a6, a7⟩ := T
  exact ⟨⟨G, H, a1.none g, a2.none g, a3.of_eq (fun k hk => g.block k (a3.lt k hk) (by simp)), a4, a5, a6, fun k hk => ⟨(a7 k hk).1, (a7 k hk).2.1, (a7 k hk).2.2.1, Nat.lt_of_lt_of_le (a7 k hk).2.2.2 g.size⟩⟩, Kp.of_none g⟩
theorem Two.prog {P G H : Nat → Prop} {w w' : World} {n p q : Nat} {v : Value} {op : Nat → Bool} {tk2 : Nat → Option Nat} {h : List (Int × Int)} (bl : ∀ k, G k → k < w.heap.size) (a2 : Re w H q n op tk2) (a3 : Hd w v h) (a4 : ∀ k, G k → ¬ H k) (a5 : ∀ k, G k → v.ownBlock ≠ some k) (a6 : ∀ k, H k → v.ownBlock ≠ some k) (a7 : ∀ k, P k → ¬ G k ∧ ¬ H k ∧ v.ownBlock ≠ some k ∧ k < w.heap.size)
    {G' : Nat → Prop} {L' : Nat → List Nat} {tk' : Nat → Option Nat} (b : Bu w' G' p L' tk') (K : Kp G G' w w') : Two P w' n p q v L' tk' op tk2 h ∧ Kp (NP P) (NP P) w w' := by
  refine ⟨⟨G', H, b, a2.kept K (fun k hk z => a4 k z hk), a3.of_eq (fun k hk => K.block k (a3.lt k hk) (fun z => a5 k z hk)), fun k hk z => ?_, fun k hk z => ?_, a6, fun k hk => ⟨fun z => ?_, (a7 k hk).2.1, (a7 k hk).2.2.1, Nat.lt_of_lt_of_le (a7 k hk).2.2.2 K.size⟩⟩, ⟨K.os, K.tape, K.output, K.size, fun k hk hn => K.block k hk (fun z => ?_), fun k z => Or.inl z⟩⟩
  · rcases K.new k hk with y | y
    · exact a4 k y z
    · have := a2.lt k z; omega
  · rcases K.new k hk with y | y
    · exact a5 k y z
    · have := a3.lt k z; omega
  · rcases K.new k z with y | y
    · exact (a7 k hk).1 y
    · have := (a7 k hk).2.2.2; omega
  · exact hn (fun y => (a7 k y).1 z)
theorem Two.ref {P G H : Nat → Prop} {w w' : World} {n p q : Nat} {v : Value} {L : Nat → List Nat} {tk : Nat → Option Nat} {h : List (Int × Int)} (a1 : Bu w G p L tk) (a3 : Hd w v h) (a4 : ∀ k, G k → ¬ H k) (a5 : ∀ k, G k → v.ownBlock ≠ some k) (a6 : ∀ k, H k → v.ownBlock ≠ some k) (a7 : ∀ k, P k → ¬ G k ∧ ¬ H k ∧ v.ownBlock ≠ some k ∧ k < w.heap.size)
    {op' : Nat → Bool} {tk' : Nat → Option Nat} (b : Re w' H q n op' tk') (K : Kp H H w w') : Two P w' n p q v L tk op' tk' h ∧ Kp (NP P) (NP P) w w' :=
  ⟨⟨G, H, a1.kept K a4, b, a3.of_eq (fun k hk => K.block k (a3.lt k hk) (fun z => a6 k z hk)), a4, a5, a6, fun k hk => ⟨(a7 k hk).1, (a7 k hk).2.1, (a7 k hk).2.2.1, Nat.lt_of_lt_of_le (a7 k hk).2.2.2 K.size⟩⟩, ⟨K.os, K.tape, K.output, K.size, fun k hk hn => K.block k hk (fun z => hn (fun y => (a7 k y).2.1 z)), fun k z => Or.inl z⟩⟩
/-- Other notes: in new memory, or at the old place. -/
theorem Two.held {P : Nat → Prop} {w w' : World} {n p q : Nat} {v v' : Value} {L : Nat → List Nat} {tk : Nat → Option Nat} {op : Nat → Bool} {tk2 : Nat → Option Nat} {h h' : List (Int × Int)} (T : Two P w n p q v L tk op tk2 h) (g : w.grownBy w' v.ownBlock) (b : Hd w' v' h') (hn : ∀ c, v'.ownBlock = some c → v.ownBlock = some c ∨ w.heap.size ≤ c) : Two P w' n p q v' L tk op tk2 h' ∧ Kp (NP P) (NP P) w w' := by
  obtain ⟨G, H, a1, a2, a3, a4, a5, a6, a7⟩ := T
  refine ⟨⟨G, H, a1.grown g (fun k hk e => a5 k hk e.symm), a2.of_eq g.size (fun k hk => g.block k (a2.lt k hk) (fun e => a6 k hk e.symm)), b, a4, fun k hk e => ?_, fun k hk e => ?_, fun k hk => ⟨(a7 k hk).1, (a7 k hk).2.1, fun e => ?_, Nat.lt_of_lt_of_le (a7 k hk).2.2.2 g.size⟩⟩, Kp.of_grown g (fun k e z => (a7 k z).2.2.1 e) (fun k z => Or.inl z)⟩
  · rcases hn k e with y | y
    · exact a5 k hk y
    · have := a1.lt k hk; omega
  · rcases hn k e with y | y
    · exact a6 k hk y
    · have := a2.lt k hk; omega
  · rcases hn k e with y | y
    · exact (a7 k hk).2.2.1 y
    · have := (a7 k hk).2.2.2; omega
/-- One block more that is none of theirs: a new one. -/
theorem Two.more {P : Nat → Prop} {w w' : World} {n p q : Nat} {v : Value} {L : Nat → List Nat} {tk : Nat → Option Nat} {op : Nat → Bool} {tk2 : Nat → Option Nat} {h : List (Int × Int)} (T : Two P w n p q v L tk op tk2 h) (g : w.grownBy w' none) (hs : w.heap.size < w'.heap.size) : Two (fun k => P k ∨ k = w.heap.size) w' n p q v L tk op tk2 h := by
  obtain ⟨G, H, a1, a2, a3, a4, a5, a6, a7⟩ := (T.new g).1
  obtain ⟨G0, H0, b1, b2, b3, b4, b5, b6, b7⟩ := T
  refine ⟨G0, H0, b1.none g, b2.none g, b3.of_eq (fun k hk => g.block k (b3.lt k hk) (by simp)), b4, b5, b6, fun k hk => ?_⟩
  rcases hk with hk | rfl
  · exact ⟨(b7 k hk).1, (b7 k hk).2.1, (b7 k hk).2.2.1, Nat.lt_of_lt_of_le (b7 k hk).2.2.2 g.size⟩
  · exact ⟨fun z => by have := b1.lt _ z; omega, fun z => by have := b2.lt _ z; omega, fun z => by have := b3.lt _ z; omega, hs⟩
theorem Two.less {P P' : Nat → Prop} {w : World} {n p q : Nat} {v : Value} {L : Nat → List Nat} {tk : Nat → Option Nat} {op : Nat → Bool} {tk2 : Nat → Option Nat} {h : List (Int × Int)} (T : Two P w n p q v L tk op tk2 h) (e : ∀ k, P' k → P k) : Two P' w n p q v L tk op tk2 h := by
  obtain ⟨G, H, a1, a2, a3, a4, a5, a6, a7⟩ := T
  exact ⟨G, H, a1, a2, a3, a4, a5, a6, fun k hk => a7 k (e k hk)⟩
theorem Kp.np {P : Nat → Prop} {w w' : World} (h : Kp (NP P) (NP P) w w') {k : Nat} (hk : P k) (hl : k < w.heap.size) : w'.heap[k]? = w.heap[k]? := h.block k hl (fun z => z hk)
end Go.Proofs.Ytdlkmeopiilmdaa
