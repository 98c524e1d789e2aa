/- Lists of regions in memory: rows that are read, rows of the call's own; what an append makes of them; no condition but those named. -/
import Derived.Test.YtmhfgfgiiinpjabVe
import Derived.WalkKit
import Derived.ProofKit
import Derived.OpenShut
import Derived.WalkSpells
import Derived.WalkLawsBesides
import Derived.Laws.IdiomCopy
import Derived.Lib.SliceRun
import Derived.Deep.AppendLies
import Derived.Deep.WholeRow
import Derived.Deep.QuietTactic
import Derived.BigQuiet
import Derived.Deep.MidRow
import Derived.Deep.RegionHeld3
import Derived.Deep.RegionHeldLaw
import Derived.Deep.Upon
namespace Go.Proofs.Ytmhfgfgiiinpjab.V
open Go.ChangeShapes Go.WideShapes Go.ChangeAt Go.RowKit
set_option linter.unusedVariables false

theorem own : ownKnob Try.prog.godebug = none := by kernel_rfl
theorem ret_int {k : IntKind} {a b : Int} (h : a = b) : Ending.returned (.int k a) = .returned (.int k b) := by rw [h]
theorem ret_bool {a b : Bool} (h : a = b) : Ending.returned (.bool a) = .returned (.bool b) := by rw [h]
theorem some_ne {a b : Nat} (h : a ≠ b) : some a ≠ some b := fun e => h (by injection e)
def iv : Value → Int | .int _ q => q | _ => 0
theorem info_parts {t : TypeId} {z : Option Value} {s b : Nat} (h : (Try.prog.info? t).map (fun i => (i.zero, i.size, i.bytes)) = some (z, s, b)) : ∃ i, Try.prog.info? t = some i ∧ i.zero = z ∧ i.size = s ∧ i.bytes = b := by
  cases hi : Try.prog.info? t with
  | none => rw [hi] at h; exact absurd h nofun
  | some i =>
    rw [hi] at h
    obtain ⟨h1, h2, h3⟩ := Prod.mk.inj (Option.some.inj h) |>.imp id (fun q => Prod.mk.inj q)
    exact ⟨i, rfl, h1, h2, h3⟩
theorem Try.infoRg : (Try.prog.info? 26).map (fun i => (i.zero, i.size, i.bytes)) = some (some (.agg #[.int .i64 0, .int .i64 0, .int .u8 0]), 3, 24) := by kernel_rfl
/-- What a region is as a value; its cells. -/
def rc (r : Rg) : List Value := [.int .i64 r.p, .int .i64 r.n, .int .u8 r.m]
def rcs (l : List Rg) : List Value := l.flatMap rc
theorem rcs_cons (r : Rg) (l : List Rg) : rcs (r :: l) = .int .i64 r.p :: .int .i64 r.n :: .int .u8 r.m :: rcs l := rfl
theorem rcs_append (l k : List Rg) : rcs (l ++ k) = rcs l ++ rcs k := List.flatMap_append
theorem rcs_len : ∀ l : List Rg, (rcs l).length = l.length * 3
  | [] => rfl
  | r :: l => by
    rw [rcs_cons]
    simp only [List.length_cons, rcs_len l]
    omega
theorem rcs_get : ∀ (l : List Rg) (i : Nat) (hi : i < l.length), (rcs l)[i * 3]? = some (.int .i64 l[i].p) ∧ (rcs l)[i * 3 + 1]? = some (.int .i64 l[i].n) ∧ (rcs l)[i * 3 + 2]? = some (.int .u8 l[i].m)
  | r :: l, 0, _ => ⟨rfl, rfl, rfl⟩
  | r :: l, i + 1, hi => by
    have := rcs_get l i (by simpa using hi)
    rw [show (i + 1) * 3 = i * 3 + 1 + 1 + 1 by omega, rcs_cons]
    exact this
theorem rcs_one (l : List Rg) : ∀ v ∈ rcs l, v.oneCell' = true := by
  intro v hv
  simp only [rcs, rc, List.mem_flatMap] at hv
  obtain ⟨s, _, hv⟩ := hv
  simp only [List.mem_cons, List.mem_nil_iff, or_false] at hv
  rcases hv with rfl | rfl | rfl <;> rfl
/-- Numbers of their kinds. -/
def wfR (r : Rg) : Prop := (-9223372036854775808 ≤ r.p ∧ r.p < 9223372036854775808) ∧ (-9223372036854775808 ≤ r.n ∧ r.n < 9223372036854775808) ∧ 0 ≤ r.m ∧ r.m < 256
theorem Rg.Ok.wf {r : Rg} (h : r.Ok) : wfR r := by
  have h1 := h.pg
  have h2 := h.pm
  unfold pgs at h1
  unfold prm at h2
  unfold wfR
  omega
/-- A list's cells behind an address. -/
def Cl (w : World) (b off : Nat) (l : List Rg) : Prop := ∀ i (hi : i < l.length), w.cell? ⟨b, off + i * 3, none⟩ = some (.int .i64 l[i].p) ∧ w.cell? ⟨b, off + i * 3 + 1, none⟩ = some (.int .i64 l[i].n) ∧ w.cell? ⟨b, off + i * 3 + 2, none⟩ = some (.int .u8 l[i].m)
/-- A list that is read: nothing, or cells behind an address. -/
def Rn (w : World) (ao : Option Addr) (l : List Rg) : Prop := l = [] ∨ ∃ b off, ao = some ⟨b, off, none⟩ ∧ b < w.heap.size ∧ Cl w b off l
theorem Rn.nil (w : World) (ao : Option Addr) : Rn w ao [] := Or.inl rfl
theorem Rn.at' {w : World} {ao : Option Addr} {l : List Rg} (h : Rn w ao l) {i : Nat} (hi : i < l.length) : ∃ b off, ao = some ⟨b, off, none⟩ ∧ b < w.heap.size ∧ w.cell? ⟨b, off + i * 3, none⟩ = some (.int .i64 l[i].p) ∧ w.cell? ⟨b, off + i * 3 + 1, none⟩ = some (.int .i64 l[i].n) ∧ w.cell? ⟨b, off + i * 3 + 2, none⟩ = some (.int .u8 l[i].m) := by
  rcases h with e | ⟨b, off, e, hb, hc⟩
  · subst e; simp at hi
  · exact ⟨b, off, e, hb, hc i hi⟩
theorem Rn.some' {w : World} {ao : Option Addr} {l : List Rg} (h : Rn w ao l) (hl : 0 < l.length) : ∃ b off, ao = some ⟨b, off, none⟩ ∧ b < w.heap.size ∧ Cl w b off l := by
  rcases h with e | h
  · subst e; simp at hl
  · exact h
theorem Rn.eq {w w' : World} {ao : Option Addr} {l : List Rg} (h : Rn w ao l) (hs : w.heap.size ≤ w'.heap.size) (e : ∀ b off, ao = some ⟨b, off, none⟩ → b < w.heap.size → w'.heap[b]? = w.heap[b]?) : Rn w' ao l := by
  rcases h with e1 | ⟨b, off, e1, hb, hc⟩
  · exact Or.inl e1
  · refine Or.inr ⟨b, off, e1, Nat.lt_of_lt_of_le hb hs, fun i hi => ?_⟩
    have := hc i hi
    have q := e b off e1 hb
    exact ⟨(World.cell?_of_block (w := w) (a := ⟨b, off + i * 3, none⟩) q).trans this.1, (World.cell?_of_block (w := w) (a := ⟨b, off + i * 3 + 1, none⟩) q).trans this.2.1, (World.cell?_of_block (w := w) (a := ⟨b, off + i * 3 + 2, none⟩) q).trans this.2.2⟩
theorem Rn.below {w w' : World} {ao : Option Addr} {l : List Rg} (h : Rn w ao l) (k : Below w.heap.size w w') : Rn w' ao l := h.eq k.size (fun b _ _ hb => k.block b hb)
theorem Rn.alloc {w : World} {ao : Option Addr} {l : List Rg} (h : Rn w ao l) (o : Obj) : Rn (w.alloc o) ao l := h.below ((Below.refl _ _).alloc (Nat.le_refl _) _)
theorem Rn.drew {w : World} {ao : Option Addr} {l : List Rg} (h : Rn w ao l) : Rn w.drew ao l := h
/-- A piece of a list. -/
theorem Rn.take {w : World} {ao : Option Addr} {l : List Rg} (h : Rn w ao l) (k : Nat) : Rn w ao (l.take k) := by
  rcases h with e | ⟨b, off, e, hb, hc⟩
  · subst e; exact Or.inl (by simp)
  · refine Or.inr ⟨b, off, e, hb, fun i hi => ?_⟩
    have hi' : i < l.length := by rw [List.length_take] at hi; omega
    have := hc i hi'
    simp only [List.getElem_take]
    exact this
theorem Rn.drop {w : World} {b off : Nat} {l : List Rg} (h : Rn w (some ⟨b, off, none⟩) l) (k : Nat) : Rn w (some ⟨b, off + k * 3, none⟩) (l.drop k) := by
  by_cases hk : k < l.length
  · obtain ⟨b', off', e, hb, hc⟩ := h.some' (by omega)
    cases e
    refine Or.inr ⟨b, off + k * 3, rfl, hb, fun i hi => ?_⟩
    rw [List.length_drop] at hi
    have := hc (k + i) (by omega)
    rw [show off + k * 3 + i * 3 = off + (k + i) * 3 by omega]
    simp only [List.getElem_drop]
    exact this
  · exact Or.inl (List.drop_eq_nil_of_le (by omega))
theorem Rn.news {w : World} {b off : Nat} {l : List Rg} (h : Rn w (some ⟨b, off, none⟩) l) : ∀ j u, (rcs l)[j]? = some u → w.cell? ((⟨b, off, none⟩ : Addr).add j) = some u := by
  intro j u hu
  have hj : j < (rcs l).length := (List.getElem?_eq_some_iff.1 hu).1
  rw [rcs_len] at hj
  obtain ⟨b', off', e, hb, hc⟩ := h.some' (by omega)
  cases e
  rw [Addr.add_lit]
  obtain ⟨i, hi, e⟩ : ∃ i, i < l.length ∧ (j = i * 3 ∨ j = i * 3 + 1 ∨ j = i * 3 + 2) := ⟨j / 3, by omega, by omega⟩
  have q := rcs_get l i hi
  have c := hc i hi
  rcases e with e | e | e
  · rw [e] at hu ⊢; rw [q.1] at hu; rw [c.1]; exact hu
  · rw [e] at hu ⊢; rw [q.2.1] at hu; rw [← Nat.add_assoc, c.2.1]; exact hu
  · rw [e] at hu ⊢; rw [q.2.2] at hu; rw [← Nat.add_assoc, c.2.2]; exact hu
/-- A row of regions in the call's own memory from base on. -/
def Rw (w : World) (base : Nat) (v : Value) (l : List Rg) : Prop := w.ownsRow base 26 3 v l.length (rcs l)
theorem Rw.nil (w : World) (base : Nat) : Rw w base (.slice none 0 0) [] := World.ownsRow_nil _ _ _ _
theorem row_lt {w : World} {base : Nat} {ty : TypeId} {k n : Nat} {v : Value} {L : List Value} (h : w.ownsRow base ty k v n L) : ∀ g, v.ownBlock = some g → base ≤ g ∧ g < w.heap.size := by
  obtain ⟨_, ⟨rfl, _⟩ | ⟨g', cap, cur, rfl, hb, hw, _⟩⟩ := h
  · intro g hg; cases hg
  · intro g hg; cases hg
    exact ⟨hb, (Array.getElem?_eq_some_iff.1 hw).1⟩
theorem row_eq {w w' : World} {base : Nat} {ty : TypeId} {k n : Nat} {v : Value} {L : List Value} (h : w.ownsRow base ty k v n L) (e : ∀ g, v.ownBlock = some g → w'.heap[g]? = w.heap[g]?) : w'.ownsRow base ty k v n L := by
  obtain ⟨h1, ⟨rfl, h2⟩ | ⟨g', cap, cur, rfl, hb, hw, h3⟩⟩ := h
  · exact ⟨h1, Or.inl ⟨rfl, h2⟩⟩
  · exact ⟨h1, Or.inr ⟨g', cap, cur, rfl, hb, (e g' rfl).trans hw, h3⟩⟩
theorem Rw.below {w w' : World} {base : Nat} {v : Value} {l : List Rg} (h : Rw w base v l) (k : Below w.heap.size w w') : Rw w' base v l := row_eq h (fun g hg => k.block g (row_lt h g hg).2)
theorem Rw.alloc {w : World} {base : Nat} {v : Value} {l : List Rg} (h : Rw w base v l) (o : Obj) : Rw (w.alloc o) base v l := h.below ((Below.refl _ _).alloc (Nat.le_refl _) _)
theorem Rw.mono {w : World} {base base' : Nat} {v : Value} {l : List Rg} (h : Rw w base v l) (hb : base' ≤ base) : Rw w base' v l := World.ownsRow.mono h hb
theorem Rw.form {w : World} {base : Nat} {v : Value} {l : List Rg} (h : Rw w base v l) : (v = .slice none 0 0 ∧ l = []) ∨ ∃ g cap, v = .slice (some ⟨g, 0, none⟩) l.length cap ∧ base ≤ g ∧ g < w.heap.size ∧ l.length ≤ cap ∧ (∀ j, j < cap * 3 → ∃ u, w.cell? ⟨g, j, none⟩ = some u) ∧ ∀ j, w.frozen? ⟨g, j, none⟩ = false := by
  obtain ⟨_, ⟨rfl, h2⟩ | ⟨g', cap, cur, rfl, hb, hw, hn, hm, hs, _⟩⟩ := h
  · exact Or.inl ⟨rfl, List.eq_nil_of_length_eq_zero h2⟩
  · refine Or.inr ⟨g', cap, rfl, hb, (Array.getElem?_eq_some_iff.1 hw).1, hn, fun j hj => ?_, fun j => ?_⟩
    · refine ⟨cur[j]'(by omega), ?_⟩
      rw [cell_of_row w g' j _ 26 (0, 0) hw]
      exact Array.getElem?_eq_getElem (by omega)
    · simp [World.frozen?, hw]
/-- What a row of the call's own holds, as a list that is read. -/
theorem Rw.rn {w : World} {base : Nat} {v : Value} {l : List Rg} (h : Rw w base v l) : ∃ a cap, v = .slice a l.length cap ∧ Rn w a l ∧ (a = none → l = [] ∧ cap = 0) ∧ ∀ b off, a = some ⟨b, off, none⟩ → off = 0 ∧ base ≤ b := by
  obtain ⟨_, ⟨rfl, h2⟩ | ⟨g', cap, cur, rfl, hb, hw, hn, hm, hs, ht⟩⟩ := h
  · have e : l = [] := List.eq_nil_of_length_eq_zero h2
    subst e
    exact ⟨none, 0, rfl, Or.inl rfl, fun _ => ⟨rfl, rfl⟩, fun b off e => by cases e⟩
  · refine ⟨_, cap, rfl, Or.inr ⟨g', 0, rfl, (Array.getElem?_eq_some_iff.1 hw).1, fun i hi => ?_⟩, (fun q => by cases q), fun b off e => by cases e; exact ⟨rfl, hb⟩⟩
    have q := rcs_get l i hi
    refine ⟨?_, ?_, ?_⟩
    · rw [cell_of_row w g' (0 + i * 3) _ 26 (0, 0) hw, Nat.zero_add, ← Array.getElem?_toList, ← q.1, ← ht, List.getElem?_take_of_lt (by omega)]
    · rw [cell_of_row w g' (0 + i * 3 + 1) _ 26 (0, 0) hw, Nat.zero_add, ← Array.getElem?_toList, ← q.2.1, ← ht, List.getElem?_take_of_lt (by omega)]
    · rw [cell_of_row w g' (0 + i * 3 + 2) _ 26 (0, 0) hw, Nat.zero_add, ← Array.getElem?_toList, ← q.2.2, ← ht, List.getElem?_take_of_lt (by omega)]
theorem grown_refl (w : World) (r : Option Nat) : w.grownBy w r := ⟨rfl, rfl, rfl, Nat.le_refl _, fun _ _ _ => rfl⟩
/-- Where something of no length is appended. -/
theorem app_nothing (w : World) (ty : TypeId) (ao ax : Option Addr) (n c cx : Nat) (hle : n ≤ c) : (Builtin.append_ #[23, 23] ty #[.slice ao n c, .slice ax 0 cx]).run Try.prog w = .ok (.slice ao n c) w := by
  obtain ⟨i0, hi0, hz0, hz1, hz2⟩ := info_parts Try.infoRg
  refine run_append_nothing w 23 23 ty 26 i0 Try.underlying23 hi0 ao n c hle _ ?_
  cases ax with
  | none => exact Src.ofNil w Try.underlying23 cx
  | some a => exact Src.ofSlice w Try.underlying23 a 0 cx [] (by simp) (fun j u h => by simp at h) (fun u h => by simp at h)
/-- A list put behind a row of the call's own. -/
theorem app_own {w : World} {base : Nat} {v : Value} {l : List Rg} (h : Rw w base v l) {ax : Option Addr} {cx : Nat} {k : List Rg} (hk : Rn w ax k) (hb : base ≤ w.heap.size) (hle : (l.length + k.length) * 24 ≤ 140737488355328) (ty : TypeId) :
    ∃ v' w', (Builtin.append_ #[23, 23] ty #[v, .slice ax k.length cx]).run Try.prog w = .ok v' w' ∧ Rw w' base v' (l ++ k) ∧ w.grownBy w' v.ownBlock ∧ (∀ g, v'.ownBlock = some g → v.ownBlock = some g ∨ w.heap.size ≤ g) := by
  obtain ⟨i0, hi0, hz0, hz1, hz2⟩ := info_parts Try.infoRg
  by_cases hk0 : k = []
  · subst hk0
    refine ⟨v, w, ?_, by rw [List.append_nil]; exact h, grown_refl _ _, fun g hg => Or.inl hg⟩
    obtain ⟨_, ⟨rfl, h2⟩ | ⟨g', cap, cur, rfl, hb', hw, hn, hm, hs, ht⟩⟩ := h
    · exact app_nothing w ty none ax 0 0 cx (Nat.le_refl _)
    · exact app_nothing w ty _ ax _ cap cx hn
  · have hpos : 0 < k.length := List.length_pos_iff.2 hk0
    obtain ⟨b, off, rfl, hbl, _⟩ := hk.some' hpos
    obtain ⟨v', w', hr, ho, hg, _, hat⟩ := run_append_own_at w base 23 ty 26 i0 _ 3 24 Try.underlying23 hi0 hz0 hz1 hz2 rfl (by decide) v l.length (rcs l) h ⟨b, off, none⟩ k.length cx (rcs k) (rcs_len k) hk.news (rcs_one k) (by unfold maxLen; omega) hle hb
    refine ⟨v', w', hr, ?_, hg, fun g hg' => ?_⟩
    · unfold Rw
      rw [rcs_append, List.length_append]
      exact ho
    · rcases hat with q | q
      · exact Or.inl (by rw [← q]; exact hg')
      · right
        rw [hg'] at q
        have : g = w.heap.size := by injection q
        omega
/-- A list put behind a list that has no room. -/
theorem app_grow {w : World} {ao : Option Addr} {l : List Rg} (h : Rn w ao l) (hn : ao = none → l = []) {ax : Option Addr} {cx : Nat} {k : List Rg} (hk : Rn w ax k) (hk0 : 0 < k.length) (hle : (l.length + k.length) * 24 ≤ 140737488355328) (ty : TypeId) :
    ∃ v' w', (Builtin.append_ #[23, 23] ty #[.slice ao l.length l.length, .slice ax k.length cx]).run Try.prog w = .ok v' w' ∧ Rw w' w.heap.size v' (l ++ k) ∧ w.grownBy w' none := by
  obtain ⟨i0, hi0, hz0, hz1, hz2⟩ := info_parts Try.infoRg
  obtain ⟨bx, offx, rfl, hbx, _⟩ := hk.some' hk0
  have fin : ∀ {v' : Value} {w' : World}, w'.ownsRow w.heap.size 26 3 v' (l.length + k.length) (rcs l ++ rcs k) → Rw w' w.heap.size v' (l ++ k) := fun ho => by
    unfold Rw
    rw [rcs_append, List.length_append]
    exact ho
  cases ao with
  | none =>
    have e := hn rfl
    subst e
    obtain ⟨v', w', hr, ho, hg, _⟩ := run_append_own w w.heap.size 23 ty 26 i0 _ 3 24 Try.underlying23 hi0 hz0 hz1 hz2 rfl (by decide) (.slice none 0 0) 0 [] (World.ownsRow_nil _ _ _ _) ⟨bx, offx, none⟩ k.length cx (rcs k) (rcs_len k) hk.news (rcs_one k) (by unfold maxLen; simp at hle; omega) (by simpa using hle) (Nat.le_refl _)
    exact ⟨v', w', hr, fin ho, hg⟩
  | some a =>
    have hold : ∀ j u, (rcs l)[j]? = some u → w.cell? (a.add j) = some u := by
      by_cases hl : l = []
      · subst hl; intro j u h; simp [rcs] at h
      · obtain ⟨b, off, e, _, _⟩ := h.some' (List.length_pos_iff.2 hl)
        cases e
        exact h.news
    obtain ⟨v', w', hr, ho, hg⟩ := run_append_arg_grows w 23 ty 26 i0 _ 3 24 Try.underlying23 hi0 hz0 hz1 hz2 rfl (by decide) a l.length l.length (rcs l) (rcs_len l) hold ⟨bx, offx, none⟩ k.length cx (rcs k) (rcs_len k) hk.news (by omega) (by unfold maxLen; omega) hle
    exact ⟨v', w', hr, fin ho, hg⟩
/-- A piece of a slice with its own room (l[a:b:c], l[a:], l[:b]): where it begins. -/
def sub (ao : Option Addr) (k c : Nat) : Option Addr := if c = 0 then ao else ao.map fun a => a.add (k * 3)
end Go.Proofs.Ytmhfgfgiiinpjab.V
