/- What a cache holds, as a list of tags for each set; what a touch makes of such a list; and what it is for a world to hold such a cache; no condition. -/
import Derived.Test.YtkbpnkjjmipjfaaGreatRows
import Derived.WalkKit
import Derived.ProofKit
import Derived.OpenShut
import Derived.WalkSpells
import Derived.WalkLawsBesides
import Derived.Laws.BitsAllLaws
import Derived.Laws.IdiomCopy
import Derived.Lib.SliceRun
import Derived.Deep.AppendLies
import Derived.Deep.WholeRow
import Derived.Maps.AppendAt
namespace Go.Proofs.YtkbpnkjjmipjfaaGreat.C
open Go.ChangeShapes Go.WideShapes Go.ChangeAt Go.RowKit
set_option linter.unusedVariables false
set_option maxRecDepth 8192

theorem own : ownKnob Tryz.prog.godebug = none := by kernel_rfl
theorem ret_int {k : IntKind} {a b : Int} (h : a = b) : Ending.returned (.int k a) = .returned (.int k b) := by rw [h]
theorem ret_bool {a b : Bool} (h : a = b) : Ending.returned (.bool a) = .returned (.bool b) := by rw [h]
theorem some_ne {a b : Nat} (h : a ≠ b) : some a ≠ some b := fun e => h (by injection e)

def tch (ways : Nat) (t : Int) (l : List Int) : List Int := (t :: l.filter (fun x => x != t)).take ways
def tv (l : List Int) : List Value := l.map (.int .u64 ·)
theorem tv_len (l : List Int) : (tv l).length = l.length := by simp [tv]
theorem tv_get (l : List Int) (i : Nat) : (tv l)[i]? = l[i]?.map (.int .u64 ·) := by simp [tv]
def okT (l : List Int) : Prop := ∀ t ∈ l, 0 ≤ t ∧ t < 18446744073709551616
def put {α : Type} (f : Nat → α) (i : Nat) (l : α) : Nat → α := fun j => if j = i then l else f j
theorem put_same {α : Type} (f : Nat → α) (i : Nat) (l : α) : put f i l i = l := by simp [put]
theorem put_other {α : Type} (f : Nat → α) (i j : Nat) (l : α) (h : j ≠ i) : put f i l j = f j := by simp [put, h]

theorem filter_none {l : List Int} {t : Int} (h : t ∉ l) : l.filter (fun x => x != t) = l := by
  rw [List.filter_eq_self]
  intro a ha
  simp only [bne_iff_ne]
  intro e
  exact h (e ▸ ha)
theorem filter_at : ∀ (l : List Int) (k : Nat) (t : Int), l.Nodup → l[k]? = some t → l.filter (fun x => x != t) = l.take k ++ l.drop (k + 1)
  | [], k, t, _, h => by simp at h
  | a :: l, 0, t, hn, h => by
    simp at h
    subst h
    have := (List.nodup_cons.1 hn).1
    simp [filter_none this]
  | a :: l, k + 1, t, hn, h => by
    have hn' := List.nodup_cons.1 hn
    simp at h
    have ih := filter_at l k t hn'.2 h
    have hne : a ≠ t := by
      intro e
      subst e
      exact hn'.1 (List.mem_of_getElem? h)
    rw [List.filter_cons_of_pos (by simpa using hne), ih]
    simp
theorem tch_found {ways k : Nat} {t : Int} {l : List Int} (hn : l.Nodup) (hk : l[k]? = some t) (hl : l.length ≤ ways) : tch ways t l = t :: (l.take k ++ l.drop (k + 1)) := by
  unfold tch
  rw [filter_at l k t hn hk, List.take_of_length_le]
  have : k < l.length := (List.getElem?_eq_some_iff.1 hk).1
  simp
  omega
theorem tch_new {ways : Nat} {t : Int} {l : List Int} (ht : t ∉ l) (hl : l.length < ways) : tch ways t l = t :: l := by
  unfold tch
  rw [filter_none ht, List.take_of_length_le]
  simp
  omega
theorem tch_full {ways : Nat} {t : Int} {l : List Int} (ht : t ∉ l) (h1 : 1 ≤ ways) : tch ways t l = t :: l.take (ways - 1) := by
  unfold tch
  rw [filter_none ht]
  obtain ⟨m, rfl⟩ : ∃ m, ways = m + 1 := ⟨ways - 1, by omega⟩
  simp
theorem tch_len (ways : Nat) (t : Int) (l : List Int) : (tch ways t l).length ≤ ways := by
  unfold tch
  simp
  omega
theorem tch_nodup (ways : Nat) (t : Int) {l : List Int} (h : l.Nodup) : (tch ways t l).Nodup := by
  unfold tch
  refine List.Nodup.sublist (List.take_sublist _ _) ?_
  rw [List.nodup_cons]
  refine ⟨by simp, h.sublist List.filter_sublist⟩
theorem tch_ok (ways : Nat) {t : Int} {l : List Int} (h : okT l) (h0 : 0 ≤ t) (h1 : t < 18446744073709551616) : okT (tch ways t l) := by
  intro x hx
  have := List.mem_of_mem_take hx
  rcases List.mem_cons.1 this with rfl | h2
  · exact ⟨h0, h1⟩
  · exact h x (List.mem_filter.1 h2).1

theorem grown_setCell' (w : World) (g k : Nat) (v : Value) : w.grownBy (w.setCell ⟨g, k, none⟩ v) (some g) :=
  ⟨rfl, rfl, rfl, by simp [World.setCell], fun i hi hne => Below.heap_setCell _ _ _ _ (by intro h; exact hne (by rw [h]))⟩
theorem grown_setCells (b : Nat) : ∀ (vs : List Value) (o : Nat) (w : World), w.grownBy (w.setCells b o vs) (some b)
  | [], _, w => ⟨rfl, rfl, rfl, Nat.le_refl _, fun _ _ _ => rfl⟩
  | v :: r, o, w => by
    have h := grown_setCell' w b o v
    have k := grown_setCells b r (o + 1) (w.setCell ⟨b, o, none⟩ v)
    exact ⟨k.os.trans h.os, k.tape.trans h.tape, k.output.trans h.output, Nat.le_trans h.size k.size, fun i hi hne => (k.block i (Nat.lt_of_lt_of_le hi h.size) hne).trans (h.block i hi hne)⟩
def Blk (w : World) (g : Nat) (ty : TypeId) (L : List Value) : Prop := w.heap[g]? = some (.cells L.toArray ty (0, 0))
theorem Blk.lt {w : World} {g : Nat} {ty : TypeId} {L : List Value} (h : Blk w g ty L) : g < w.heap.size := (Array.getElem?_eq_some_iff.1 h).1
theorem Blk.cell {w : World} {g : Nat} {ty : TypeId} {L : List Value} (h : Blk w g ty L) (i : Nat) : w.cell? ⟨g, i, none⟩ = L[i]? := by
  rw [cell_of_row w g i _ ty (0, 0) h]; simp
theorem Blk.frozen {w : World} {g : Nat} {ty : TypeId} {L : List Value} (h : Blk w g ty L) (i : Nat) : w.frozen? ⟨g, i, none⟩ = false := by
  unfold Blk at h
  simp [World.frozen?, h]
theorem Blk.of_eq {w w' : World} {g : Nat} {ty : TypeId} {L : List Value} (h : Blk w g ty L) (e : w'.heap[g]? = w.heap[g]?) : Blk w' g ty L := by unfold Blk at *; rw [e, h]
theorem Blk.kept {w w' : World} {g : Nat} {ty : TypeId} {L : List Value} {row : Option Nat} (h : Blk w g ty L) (k : w.grownBy w' row) (hne : some g ≠ row) : Blk w' g ty L := h.of_eq (k.block g h.lt hne)
theorem Blk.set {w : World} {g : Nat} {ty : TypeId} {L : List Value} (h : Blk w g ty L) (i : Nat) (v : Value) : Blk (w.setCell ⟨g, i, none⟩ v) g ty (L.set i v) := by
  unfold Blk at *
  simp only [World.setCell, Array.getElem?_modify, if_true, h]
  simp
theorem over_cons (L : List Value) (a : Nat) (v : Value) (vs : List Value) (h : a + 1 + vs.length ≤ L.length) : (L.set a v).take (a + 1) ++ vs ++ (L.set a v).drop (a + 1 + vs.length) = L.take a ++ (v :: vs) ++ L.drop (a + (vs.length + 1)) := by
  rw [List.drop_set_of_lt (by omega), List.take_set, List.take_add_one, List.getElem?_eq_getElem (by omega : a < L.length)]
  simp only [Option.toList_some]
  rw [List.set_append_right _ _ (by simp; omega)]
  simp
  rw [Nat.min_eq_left (by omega), Nat.sub_self]
  simp
  congr 1
  omega
theorem Blk.sets {g : Nat} {ty : TypeId} : ∀ (vs : List Value) (a : Nat) (w : World) (L : List Value), Blk w g ty L → a + vs.length ≤ L.length → Blk (w.setCells g a vs) g ty (L.take a ++ vs ++ L.drop (a + vs.length))
  | [], a, w, L, h, _ => by simpa [World.setCells] using h
  | v :: vs, a, w, L, h, hl => by
    simp only [List.length_cons] at hl
    have := Blk.sets vs (a + 1) _ _ (h.set a v) (by simp; omega)
    rw [over_cons L a v vs (by omega)] at this
    rw [World.setCells]
    simpa using this
theorem blk_new (w : World) (L : List Value) (ty : TypeId) : Blk (w.alloc (.cells L.toArray ty)) w.heap.size ty L := heap_alloc_last w _
end Go.Proofs.YtkbpnkjjmipjfaaGreat.C
namespace Go.Proofs.YtkbpnkjjmipjfaaGreat.C
open Go.ChangeShapes Go.WideShapes Go.ChangeAt Go.RowKit
set_option linter.unusedVariables false
set_option maxRecDepth 8192

def Own (w : World) (v : Value) (l : List Int) : Prop := w.ownsRow 0 22 1 v l.length (tv l)
theorem Own.nil (w : World) : Own w (.slice none 0 0) [] := World.ownsRow_nil w 0 22 1
theorem Own.shape {w : World} {v : Value} {l : List Int} (h : Own w v l) : (v = .slice none 0 0 ∧ l = []) ∨ ∃ g cap L, v = .slice (some ⟨g, 0, none⟩) l.length cap ∧ Blk w g 22 L ∧ l.length ≤ cap ∧ cap ≤ maxLen ∧ L.length = cap ∧ L.take l.length = tv l := by
  rcases h.2 with ⟨h1, h2⟩ | ⟨g, cap, cur, h1, h2, h3, h4, h5, h6, h7⟩
  · exact Or.inl ⟨h1, List.eq_nil_of_length_eq_zero h2⟩
  · refine Or.inr ⟨g, cap, cur.toList, h1, ?_, h4, h5, by simpa using h6, by simpa using h7⟩
    unfold Blk
    simpa using h3
theorem Own.of_blk {w : World} {g cap : Nat} {L : List Value} {l : List Int} (h : Blk w g 22 L) (h1 : l.length ≤ cap) (h2 : cap ≤ maxLen) (h3 : L.length = cap) (h4 : L.take l.length = tv l) : Own w (.slice (some ⟨g, 0, none⟩) l.length cap) l :=
  ⟨by simp [tv], Or.inr ⟨g, cap, L.toArray, rfl, Nat.zero_le _, h, h1, h2, by simpa using h3, by simpa using h4⟩⟩
theorem Own.of_eq {w w' : World} {v : Value} {l : List Int} (h : Own w v l) (e : ∀ g, v.ownBlock = some g → w'.heap[g]? = w.heap[g]?) : Own w' v l := by
  refine ⟨h.1, ?_⟩
  rcases h.2 with h1 | ⟨g, cap, cur, h1, h2, h3, h4⟩
  · exact Or.inl h1
  · subst h1
    exact Or.inr ⟨g, cap, cur, rfl, h2, (e g rfl).trans h3, h4⟩
theorem Own.lt {w : World} {v : Value} {l : List Int} (h : Own w v l) : ∀ g, v.ownBlock = some g → g < w.heap.size := by
  intro g hg
  rcases h.shape with ⟨rfl, _⟩ | ⟨g', cap, L, rfl, hb, _⟩
  · cases hg
  · cases hg
    exact hb.lt
structure Cch (w : World) (p b n ways : Nat) (V : Nat → Value) (f : Nat → List Int) : Prop where
  lt : p < w.heap.size
  c0 : w.cell? ⟨p, 0, none⟩ = some (.int .i64 ways)
  c1 : w.cell? ⟨p, 1, none⟩ = some (.slice (some ⟨b, 0, none⟩) n n)
  z1 : w.frozen? ⟨p, 1, none⟩ = false
  blt : b < w.heap.size
  row : ∀ i, i < n → w.cell? ⟨b, i, none⟩ = some (V i)
  fz : ∀ i, i < n → w.frozen? ⟨b, i, none⟩ = false
  own : ∀ i, i < n → Own w (V i) (f i)
  ne : p ≠ b
  vp : ∀ i, i < n → (V i).ownBlock ≠ some p
  vb : ∀ i, i < n → (V i).ownBlock ≠ some b
  inj : ∀ i j g, i < n → j < n → i ≠ j → (V i).ownBlock = some g → (V j).ownBlock ≠ some g
  len : ∀ i, i < n → (f i).length ≤ ways
  nod : ∀ i, i < n → (f i).Nodup
  ok : ∀ i, i < n → okT (f i)
  w1 : 1 ≤ ways
  w16 : ways ≤ 16
  n1 : 1 ≤ n
  n4 : n ≤ 4096
structure Kp (F F' : Nat → Prop) (w w' : World) : Prop where
  os : w'.os = w.os
  tape : w'.tape = w.tape
  output : w'.output = w.output
  size : w.heap.size ≤ w'.heap.size
  block : ∀ k, k < w.heap.size → ¬ F k → w'.heap[k]? = w.heap[k]?
  new : ∀ k, F' k → F k ∨ w.heap.size ≤ k
def Ca (w : World) (F : Nat → Prop) (p n ways : Nat) (f : Nat → List Int) : Prop :=
  (∀ k, F k → k < w.heap.size) ∧ ∃ b V, Cch w p b n ways V f ∧ F p ∧ F b ∧ ∀ i g, i < n → (V i).ownBlock = some g → F g
theorem Kp.of_grown {F F' : Nat → Prop} {w w' : World} {row : Option Nat} (h : w.grownBy w' row) (hr : ∀ g, row = some g → F g) (hn : ∀ k, F' k → F k ∨ w.heap.size ≤ k) : Kp F F' w w' :=
  ⟨h.os, h.tape, h.output, h.size, fun k hk hF => h.block k hk (by intro e; exact hF (hr k e.symm)), hn⟩
theorem Kp.trans {F F' F'' : Nat → Prop} {a b c : World} (h : Kp F F' a b) (k : Kp F' F'' b c) : Kp F F'' a c :=
  ⟨k.os.trans h.os, k.tape.trans h.tape, k.output.trans h.output, Nat.le_trans h.size k.size,
   fun i hi hF => (k.block i (Nat.lt_of_lt_of_le hi h.size) (fun e => by rcases h.new i e with q | q; exact hF q; omega)).trans (h.block i hi hF),
   fun i hi => by
    rcases k.new i hi with q | q
    · exact h.new i q
    · exact Or.inr (Nat.le_trans h.size q)⟩
theorem Cch.of_eq {w w' : World} {p b n ways : Nat} {V : Nat → Value} {f : Nat → List Int} (h : Cch w p b n ways V f) (hs : w.heap.size ≤ w'.heap.size) (ep : w'.heap[p]? = w.heap[p]?) (eb : w'.heap[b]? = w.heap[b]?) (eV : ∀ i g, i < n → (V i).ownBlock = some g → w'.heap[g]? = w.heap[g]?) : Cch w' p b n ways V f :=
  ⟨Nat.lt_of_lt_of_le h.lt hs, (World.cell?_of_block (w := w) (a := ⟨p, 0, none⟩) ep).trans h.c0, (World.cell?_of_block (w := w) (a := ⟨p, 1, none⟩) ep).trans h.c1, (World.frozen?_of_block (w := w) (a := ⟨p, 1, none⟩) ep).trans h.z1, Nat.lt_of_lt_of_le h.blt hs,
   fun i hi => (World.cell?_of_block (w := w) (a := ⟨b, i, none⟩) eb).trans (h.row i hi), fun i hi => (World.frozen?_of_block (w := w) (a := ⟨b, i, none⟩) eb).trans (h.fz i hi),
   fun i hi => (h.own i hi).of_eq (fun g hg => eV i g hi hg), h.ne, h.vp, h.vb, h.inj, h.len, h.nod, h.ok, h.w1, h.w16, h.n1, h.n4⟩
theorem Ca.of_eq {w w' : World} {F : Nat → Prop} {p n ways : Nat} {f : Nat → List Int} (h : Ca w F p n ways f) (hs : w.heap.size ≤ w'.heap.size) (e : ∀ k, F k → w'.heap[k]? = w.heap[k]?) : Ca w' F p n ways f := by
  obtain ⟨h1, b, V, hC, hp, hb, hV⟩ := h
  exact ⟨fun k hk => Nat.lt_of_lt_of_le (h1 k hk) hs, b, V, hC.of_eq hs (e p hp) (e b hb) (fun i g hi hg => e g (hV i g hi hg)), hp, hb, hV⟩
theorem Cch.turn {w w' : World} {p b n ways : Nat} {V : Nat → Value} {f : Nat → List Int} (h : Cch w p b n ways V f) (i : Nat) (hi : i < n) (v' : Value) (l' : List Int) (hs : w.heap.size ≤ w'.heap.size)
    (hk : ∀ k, k < w.heap.size → k ≠ b → some k ≠ (V i).ownBlock → w'.heap[k]? = w.heap[k]?)
    (hr : ∀ j, j < n → w'.cell? ⟨b, j, none⟩ = some (put V i v' j)) (hf : ∀ j, j < n → w'.frozen? ⟨b, j, none⟩ = false)
    (ho : Own w' v' l') (hv : ∀ g, v'.ownBlock = some g → (V i).ownBlock = some g ∨ w.heap.size ≤ g)
    (hl : l'.length ≤ ways) (hn : l'.Nodup) (hok : okT l') : Cch w' p b n ways (put V i v') (put f i l') := by
  have ep : w'.heap[p]? = w.heap[p]? := hk p h.lt h.ne (fun e => h.vp i hi e.symm)
  have hlt : ∀ j g, j < n → (V j).ownBlock = some g → g < w.heap.size := fun j g hj hg => (h.own j hj).lt g hg
  have pv : ∀ j, j < n → ∀ g, (put V i v' j).ownBlock = some g → (j = i ∧ w.heap.size ≤ g) ∨ (V j).ownBlock = some g := by
    intro j hj g hg
    by_cases e : j = i
    · subst e
      rw [put_same] at hg
      rcases hv g hg with q | q
      · exact Or.inr q
      · exact Or.inl ⟨rfl, q⟩
    · rw [put_other _ _ _ _ e] at hg
      exact Or.inr hg
  refine ⟨Nat.lt_of_lt_of_le h.lt hs, (World.cell?_of_block (w := w) (a := ⟨p, 0, none⟩) ep).trans h.c0, (World.cell?_of_block (w := w) (a := ⟨p, 1, none⟩) ep).trans h.c1, (World.frozen?_of_block (w := w) (a := ⟨p, 1, none⟩) ep).trans h.z1, Nat.lt_of_lt_of_le h.blt hs, hr, hf, ?_, h.ne, ?_, ?_, ?_, ?_, ?_, ?_, h.w1, h.w16, h.n1, h.n4⟩
  · intro j hj
    by_cases e : j = i
    · subst e
      rw [put_same, put_same]
      exact ho
    · rw [put_other _ _ _ _ e, put_other _ _ _ _ e]
      refine (h.own j hj).of_eq (fun g hg => hk g (hlt j g hj hg) (fun q => h.vb j hj (q ▸ hg)) (fun q => h.inj j i g hj hi e hg q.symm))
  · intro j hj q
    rcases pv j hj p q with ⟨_, q2⟩ | q2
    · have := h.lt; omega
    · exact h.vp j hj q2
  · intro j hj q
    rcases pv j hj b q with ⟨_, q2⟩ | q2
    · have := h.blt; omega
    · exact h.vb j hj q2
  · intro j k g hj hk' hne q q'
    rcases pv j hj g q with ⟨e1, q2⟩ | q2
    · rcases pv k hk' g q' with ⟨e2, _⟩ | q3
      · omega
      · have := hlt k g hk' q3; omega
    · rcases pv k hk' g q' with ⟨e2, q3⟩ | q3
      · have := hlt j g hj q2; omega
      · exact h.inj j k g hj hk' hne q2 q3
  · intro j hj
    by_cases e : j = i
    · subst e; rw [put_same]; exact hl
    · rw [put_other _ _ _ _ e]; exact h.len j hj
  · intro j hj
    by_cases e : j = i
    · subst e; rw [put_same]; exact hn
    · rw [put_other _ _ _ _ e]; exact h.nod j hj
  · intro j hj
    by_cases e : j = i
    · subst e; rw [put_same]; exact hok
    · rw [put_other _ _ _ _ e]; exact h.ok j hj
theorem Ca.turned {w w' : World} {F : Nat → Prop} {p b n ways : Nat} {V V' : Nat → Value} {f' : Nat → List Int} (h1 : ∀ k, F k → k < w.heap.size) (hp : F p) (hb : F b) (hV : ∀ i g, i < n → (V i).ownBlock = some g → F g)
    (hs : w.heap.size ≤ w'.heap.size) (hC : Cch w' p b n ways V' f') (hn : ∀ i g, i < n → (V' i).ownBlock = some g → F g ∨ w.heap.size ≤ g) :
    Ca w' (fun k => F k ∨ (w.heap.size ≤ k ∧ k < w'.heap.size)) p n ways f' := by
  refine ⟨fun k hk => ?_, b, V', hC, Or.inl hp, Or.inl hb, fun i g hi hg => ?_⟩
  · rcases hk with q | q
    · exact Nat.lt_of_lt_of_le (h1 k q) hs
    · exact q.2
  · rcases hn i g hi hg with q | q
    · exact Or.inl q
    · exact Or.inr ⟨q, (hC.own i hi).lt g hg⟩
end Go.Proofs.YtkbpnkjjmipjfaaGreat.C
namespace Go.Proofs.YtkbpnkjjmipjfaaGreat.C
open Go.ChangeShapes Go.WideShapes Go.ChangeAt Go.RowKit
set_option linter.unusedVariables false
set_option maxRecDepth 8192

theorem New_no (s k : Int) (h : s < 1 ∨ 4096 < s ∨ k < 1 ∨ 16 < k ∨ bits .and .i64 s (s - 1) ≠ 0) (h0 : -9223372036854775808 < s) (w : World) :
    Calls Tryz.prog 41 #[.int .i64 s, .int .i64 k] w fun e w' => e = .returned (.tuple #[.pointer none, .int .i64 2]) ∧ w' = w := by
  by_cases a1 : s < 1
  · go_enter Tryz.func41, Tryz.ntmps41
    go_wp2
    all_goals (go_ret2; exact ⟨rfl, rfl⟩)
  · by_cases a2 : 4096 < s
    · go_enter Tryz.func41, Tryz.ntmps41
      go_wp2
      all_goals (go_ret2; exact ⟨rfl, rfl⟩)
    · by_cases a3 : bits .and .i64 s (s - 1) = 0
      · have h' : k < 1 ∨ 16 < k := by omega
        clear h
        go_enter Tryz.func41, Tryz.ntmps41
        go_wp2
        all_goals (go_ret2; exact ⟨rfl, rfl⟩)
      · have hb : (bits .and .i64 s (s - 1) != 0) = true := by simpa using a3
        clear h
        go_enter Tryz.func41, Tryz.ntmps41
        go_wp2
        all_goals (go_ret2; exact ⟨rfl, rfl⟩)
theorem Tryz.infoS : (Tryz.prog.info? 152).map (fun i => (i.zero, i.size, i.bytes)) = some (some (.slice none 0 0), 1, 24) := by kernel_rfl
theorem Tryz.infoU : (Tryz.prog.info? 22).map (fun i => (i.zero, i.size, i.bytes)) = some (some (.int .u64 0), 1, 8) := by kernel_rfl
theorem make_run (n : Nat) (hn : n ≤ 4096) (w : World) : (Instr.makeSlice 184 (.int .i64 n) (.int .i64 n)).run Tryz.prog w = .ok (.slice (some ⟨w.heap.size, 0, none⟩) n n) (w.alloc (.cells (List.replicate n (.slice none 0 0)).toArray 152)) := by
  obtain ⟨i0, hi, hz0, hz1, hz2⟩ := info_parts Tryz.infoS
  have h := run_makeSlice (P := Tryz.prog) w 184 152 i0 (.slice none 0 0) Tryz.underlying184 hi hz0 .i64 .i64 n n (by omega) (by omega) (by rw [hz1]; simp; omega) (by rw [hz2]; omega) (by omega)
  rw [h]
  have e : madeCells (Value.slice none 0 0).cells ((n : Int).toNat * i0.size) = (List.replicate n (.slice none 0 0)).toArray := by
    apply Array.toList_inj.1
    rw [hz1, Int.toNat_natCast]
    show (madeCells #[.slice none 0 0] (n * 1)).toList = _
    rw [toList_madeCells_one, Nat.mul_one]
  rw [e, Int.toNat_natCast]
theorem new_cache {w w' : World} {n ways : Nat} {ty : TypeId} (h1 : 1 ≤ n) (hn : n ≤ 4096) (k1 : 1 ≤ ways) (k2 : ways ≤ 16)
    (e : w' = (w.alloc (.cells (List.replicate n (.slice none 0 0)).toArray 152)).alloc (.cells #[.int .i64 ways, .slice (some ⟨w.heap.size, 0, none⟩) n n] ty)) :
    ∃ F, Ca w' F (w.heap.size + 1) n ways (fun _ => []) ∧ Kp (fun _ => False) F w w' := by
  have hb : Blk w' w.heap.size 152 (List.replicate n (.slice none 0 0)) := by
    rw [e]
    exact (blk_new w _ 152).kept (World.grownBy_alloc _ _ none) (by simp)
  have hp : Blk w' (w.heap.size + 1) ty [.int .i64 ways, .slice (some ⟨w.heap.size, 0, none⟩) n n] := by
    rw [e]
    have := blk_new (w.alloc (.cells (List.replicate n (.slice none 0 0)).toArray 152)) [.int .i64 ways, .slice (some ⟨w.heap.size, 0, none⟩) n n] ty
    simpa using this
  have G : w.grownBy w' none := by
    rw [e]
    exact (World.grownBy_alloc _ _ none).trans (World.grownBy_alloc _ _ none)
  refine ⟨fun k => k = w.heap.size ∨ k = w.heap.size + 1, ⟨?_, w.heap.size, fun _ => .slice none 0 0, ?_, Or.inr rfl, Or.inl rfl, fun i g _ hg => by cases hg⟩, Kp.of_grown G (by simp) (fun k hk => Or.inr (by omega))⟩
  · intro k hk
    have a1 := hb.lt
    have a2 := hp.lt
    rcases hk with rfl | rfl
    · exact a1
    · exact a2
  · exact ⟨hp.lt, hp.cell 0, hp.cell 1, hp.frozen 1, hb.lt, fun i hi => by rw [hb.cell i]; simp [hi], fun i _ => hb.frozen i, fun i _ => Own.nil _, by omega, fun i _ h => (by cases h), fun i _ h => (by cases h), fun i j g _ _ _ h => (by cases h), fun i _ => (by simp), fun i _ => (by simp), fun i _ t ht => (by simp at ht), k1, k2, h1, hn⟩
theorem New_ok (n ways : Nat) (h1 : 1 ≤ n) (hn : n ≤ 4096) (k1 : 1 ≤ ways) (k2 : ways ≤ 16) (hb : bits .and .i64 n ((n : Int) - 1) = 0) (w : World) :
    Calls Tryz.prog 41 #[.int .i64 n, .int .i64 ways] w fun e w' => ∃ p F, e = .returned (.tuple #[.pointer (some ⟨p, 0, none⟩), .int .i64 0]) ∧ Ca w' F p n ways (fun _ => []) ∧ Kp (fun _ => False) F w w' := by
  have m6 := make_run n hn w
  have HN := fun w' => new_cache (w := w) (w' := w') (ty := 186) h1 hn k1 k2
  have HN : Hid (∀ w', w' = (w.alloc (.cells (List.replicate n (.slice none 0 0)).toArray 152)).alloc (.cells #[.int .i64 ways, .slice (some ⟨w.heap.size, 0, none⟩) n n] 186) → ∃ F, Ca w' F (w.heap.size + 1) n ways (fun _ => []) ∧ Kp (fun _ => False) F w w') := HN
  generalize (List.replicate n (Value.slice none 0 0)).toArray = C6 at *
  go_enter Tryz.func41, Tryz.ntmps41
  go_wp2
  go_ret2
  obtain ⟨F, hF⟩ := HN.out _ rfl
  exact ⟨w.heap.size + 1, F, by simp, hF⟩
theorem made_any {w : World} {p b n ways : Nat} {V : Nat → Value} {f : Nat → List Int} (hM : Cch w p b n ways V f) :
    Calls Tryz.prog 244 #[.pointer (some ⟨p, 0, none⟩)] w fun e w' => e = .returned (.bool true) ∧ w' = w := by
  have hc := hM.c1
  have h1 := hM.n1
  have h4 := hM.n4
  clear hM
  go_enter Tryz.func244, Tryz.ntmps244
  go_wp2
  go_ret
  exact ⟨ret_bool (by simp; omega), rfl⟩
theorem tags_ok {w : World} {p b n ways : Nat} {V : Nat → Value} {f : Nat → List Int} (hM : Cch w p b n ways V f) (i : Nat) (hi : i < n) :
    Calls Tryz.prog 221 #[.pointer (some ⟨p, 0, none⟩), .int .i64 i] w fun e w' => e = .returned (.tuple #[V i, .int .i64 0]) ∧ w' = w := by
  have hc := hM.c1
  have hr := hM.row i hi
  have h4 := hM.n4
  have HM : Hid (Cch w p b n ways V f) := hM
  clear hM
  generalize V i = v at *
  go_enter Tryz.func221, Tryz.ntmps221
  go_wp2_with (go_at_call 244; refine (made_any HM.out).mono ?_; rintro e w' ⟨rfl, rfl⟩)
  go_ret2
  exact ⟨rfl, rfl⟩
def idx (l : List Int) (t : Int) : Int := if t ∈ l then (l.idxOf t : Int) else -1
theorem idx_at {l : List Int} {t : Int} {k : Nat} (h : l[k]? = some t) (hb : ∀ j, j < k → l[j]? ≠ some t) : idx l t = k := by
  unfold idx
  rw [if_pos (List.mem_of_getElem? h)]
  obtain ⟨hk, e⟩ := List.getElem?_eq_some_iff.1 h
  have h1 : l.idxOf t < l.length := List.idxOf_lt_length_of_mem (List.mem_of_getElem? h)
  have h2 : l[l.idxOf t]? = some t := by rw [List.getElem?_eq_getElem h1, List.getElem_idxOf]
  have h3 : ¬ l.idxOf t < k := fun q => hb _ q h2
  have h4 : ¬ k < l.idxOf t := fun q => by
    have := List.not_of_lt_findIdx (p := (· == t)) (xs := l) (i := k) (by simpa [List.idxOf] using q)
    simp [e] at this
  omega
theorem idx_no {l : List Int} {t : Int} (hb : ∀ j, j < l.length → l[j]? ≠ some t) : idx l t = -1 := by
  unfold idx
  rw [if_neg]
  intro h
  obtain ⟨k, hk⟩ := List.getElem?_of_mem h
  exact hb k (List.getElem?_eq_some_iff.1 hk).1 hk
theorem Own.cell {w : World} {v : Value} {l : List Int} (h : Own w v l) {k : Nat} {t : Int} (hk : l[k]? = some t) : ∃ g cap, v = .slice (some ⟨g, 0, none⟩) l.length cap ∧ w.cell? ⟨g, k, none⟩ = some (.int .u64 t) := by
  obtain ⟨hlt, _⟩ := List.getElem?_eq_some_iff.1 hk
  rcases h.shape with ⟨_, rfl⟩ | ⟨g, cap, L, h1, h2, h3, h4, h5, h6⟩
  · simp at hlt
  · refine ⟨g, cap, h1, ?_⟩
    rw [h2.cell k, ← List.getElem?_take_of_lt hlt, h6, tv_get, hk]
    rfl
theorem Own.len {w : World} {v : Value} {l : List Int} (h : Own w v l) : ∃ a cap, v = .slice a l.length cap := by
  rcases h.shape with ⟨h1, rfl⟩ | ⟨g, cap, L, h1, _⟩
  · exact ⟨none, 0, h1⟩
  · exact ⟨_, _, h1⟩
theorem Index_any {w : World} {v : Value} {l : List Int} (ho : Own w v l) (hl : l.length ≤ 4096) (t : Int) :
    Calls Tryz.prog 222 #[v, .int .u64 t] w fun e w' => e = .returned (.int .i64 (idx l t)) ∧ w' = w := by
  obtain ⟨a, cap, rfl⟩ := ho.len
  have HO : Hid (Own w (.slice a l.length cap) l) := ho
  clear ho
  go_enter Tryz.func222, Tryz.ntmps222
  go_wp2_with fail
  go_loop [8] (fun i => ∃ k : Nat, k ≤ l.length ∧ i = .int .i64 k ∧ ∀ j, j < k → l[j]? ≠ some t) (fun i => l.length - (intOf i).toNat)
  case atStart => exact ⟨0, by omega, rfl, fun j hj => by omega⟩
  case round =>
    obtain ⟨k, hk, rfl, hb⟩ := hrel
    have HB : Hid (∀ j, j < k → l[j]? ≠ some t) := hb
    clear hb
    by_cases hlt : k < l.length
    · have hg : l[k]? = some l[k] := List.getElem?_eq_getElem hlt
      obtain ⟨g, cap', e1, hc⟩ := HO.out.cell hg
      cases e1
      have HG : Hid (l[k]? = some l[k]) := hg
      clear hg
      generalize l[k] = x at *
      by_cases e : t = x
      · subst e
        have HI : Hid (idx l t = k) := idx_at HG.out HB.out
        go_wp2
        go_ret
        exact ⟨ret_int HI.out.symm, rfl⟩
      · go_wp2
        go_round
        case rel =>
          refine ⟨k + 1, by omega, by go_num, fun j hj => ?_⟩
          by_cases q : j < k
          · exact HB.out j q
          · obtain rfl : j = k := by omega
            rw [HG.out]
            intro z
            injection z with z
            exact e z.symm
        case measure => simp [intOf]; omega
    · obtain rfl : k = l.length := by omega
      go_wp2
      go_ret
      exact ⟨ret_int (idx_no HB.out).symm, rfl⟩
end Go.Proofs.YtkbpnkjjmipjfaaGreat.C
namespace Go.Proofs.YtkbpnkjjmipjfaaGreat.C
open Go.ChangeShapes Go.WideShapes Go.ChangeAt Go.RowKit
set_option linter.unusedVariables false
set_option maxRecDepth 8192

theorem Tryz.zeroU : (Tryz.prog.info? 22).map (fun i => (i.zero, i.size)) = some (some (.int .u64 0), 1) := by kernel_rfl
theorem set_front (L : List Value) (m : Nat) (v : Value) (h1 : 1 ≤ L.length) : (L.take 1 ++ L.take (m - 1) ++ L.drop (1 + (m - 1))).set 0 v = v :: (L.take (m - 1) ++ L.drop (1 + (m - 1))) := by
  cases L with
  | nil => simp at h1
  | cons a L => simp
theorem rotate_big {w : World} {g m cap : Nat} {L : List Value} (hB : Blk w g 22 L) (h1 : 1 ≤ m) (hm : m ≤ 4096) (hL : m ≤ L.length) (hc : m ≤ cap) (hc1 : cap ≠ 1) (hcm : cap ≤ maxLen) (hone : ∀ v ∈ L.take m, v.oneCell' = true) (t : Int) :
    Calls Tryz.prog 223 #[.slice (some ⟨g, 0, none⟩) m cap, .int .u64 t] w fun e w' => e = .returned (.tuple #[]) ∧ w.grownBy w' (some g) ∧ Blk w' g 22 (.int .u64 t :: (L.take (m - 1) ++ L.drop m)) := by
  have hlen : (L.take (m - 1)).length = m - 1 := by simp; omega
  have hcp : ∀ ty, (Builtin.copy_ #[152, 152] ty #[.slice (some ⟨g, 1, none⟩) (m - 1) (cap - 1), .slice (some ⟨g, 0, none⟩) m cap]).run Tryz.prog w = .ok (goInt (m - 1 : Nat)) (w.setCells g 1 (L.take (m - 1))) := fun ty => by
    have e : Result.ok (goInt (L.take (m - 1)).length) (w.setCells g 1 (L.take (m - 1))) = Result.ok (goInt (m - 1 : Nat)) (w.setCells g 1 (L.take (m - 1))) := by rw [hlen]
    rw [← e]
    refine run_copy_cells w 152 152 ty 22 g 1 (m - 1) (cap - 1) ⟨g, 0, none⟩ m cap (L.take (m - 1)) Tryz.underlying152 (zero_of_info Tryz.zeroU).2 (by rw [hlen]; exact (Nat.min_eq_right (by omega)).symm) ?_ ?_ ?_ ?_
    · intro i v hv
      rw [Go.WideShapes.add_plain, Nat.zero_add, hB.cell i, ← hv, List.getElem?_take_of_lt]
      have := (List.getElem?_eq_some_iff.1 hv).1
      omega
    · intro i hi
      rw [hB.cell (1 + i), List.getElem?_eq_getElem (by omega)]
      rfl
    · intro i hi
      exact hB.frozen _
    · intro v hv
      refine hone v ?_
      have : L.take (m - 1) = (L.take m).take (m - 1) := by rw [List.take_take, Nat.min_eq_left (by omega)]
      rw [this] at hv
      exact List.mem_of_mem_take hv
  have HB2 : Hid (Blk (w.setCells g 1 (L.take (m - 1))) g 22 (L.take 1 ++ L.take (m - 1) ++ L.drop (1 + (m - 1)))) := by
    have := Blk.sets (L.take (m - 1)) 1 w L hB (by rw [hlen]; omega)
    rw [hlen] at this
    exact this
  have HG : Hid (w.grownBy (w.setCells g 1 (L.take (m - 1))) (some g)) := grown_setCells _ _ _ _
  generalize w.setCells g 1 (L.take (m - 1)) = wz at *
  have hd : wz.cell? ⟨g, 0, none⟩ = L[0]? := by
    rw [HB2.out.cell 0, List.append_assoc, List.getElem?_append_left (by simp; omega), List.getElem?_take_of_lt (by omega)]
  rw [List.getElem?_eq_getElem (by omega : 0 < L.length)] at hd
  have hz := HB2.out.frozen 0
  have HF := set_front L m (.int .u64 t) (by omega)
  rw [show 1 + (m - 1) = m by omega] at HF
  have HF : Hid _ := HF
  generalize L[0] = old at hd
  clear hone hB hlen
  unfold maxLen at hcm
  have e1 : ((m : Int) - 1).toNat = m - 1 := by omega
  have e2 : ((cap : Int) - 1).toNat = cap - 1 := by omega
  go_enter Tryz.func223, Tryz.ntmps223
  go_wp2
  go_end0
  refine ⟨rfl, HG.out.trans (grown_setCell' _ _ _ _), ?_⟩
  have := HB2.out.set 0 (.int .u64 t)
  rw [show 1 + (m - 1) = m by omega, HF.out] at this
  exact this
theorem rotate_one {w : World} {g : Nat} {L : List Value} (hB : Blk w g 22 L) (hL : 1 ≤ L.length) (t : Int) :
    Calls Tryz.prog 223 #[.slice (some ⟨g, 0, none⟩) 1 1, .int .u64 t] w fun e w' => e = .returned (.tuple #[]) ∧ w.grownBy w' (some g) ∧ Blk w' g 22 (.int .u64 t :: (L.take (1 - 1) ++ L.drop 1)) := by
  have hcp : ∀ ty, (Builtin.copy_ #[152, 152] ty #[.slice (some ⟨g, 0, none⟩) 0 0, .slice (some ⟨g, 0, none⟩) 1 1]).run Tryz.prog w = .ok (goInt 0) w := fun ty => run_copy_none w 152 152 ty 22 _ _ 0 0 1 1 Tryz.underlying152 (zero_of_info Tryz.zeroU).2 rfl
  have hd : w.cell? ⟨g, 0, none⟩ = L[0]? := hB.cell 0
  rw [List.getElem?_eq_getElem (by omega : 0 < L.length)] at hd
  have hz := hB.frozen 0
  have HB : Hid (Blk w g 22 L) := hB
  clear hB
  generalize L[0] = old at hd
  go_enter Tryz.func223, Tryz.ntmps223
  go_wp2
  go_end0
  refine ⟨rfl, grown_setCell' _ _ _ _, ?_⟩
  have := HB.out.set 0 (.int .u64 t)
  cases L with
  | nil => simp at hL
  | cons a L => simpa using this
theorem rotate_ok {w : World} {g m cap : Nat} {L : List Value} (hB : Blk w g 22 L) (h1 : 1 ≤ m) (hm : m ≤ 4096) (hL : m ≤ L.length) (hc : m ≤ cap) (hcm : cap ≤ maxLen) (hone : ∀ v ∈ L.take m, v.oneCell' = true) (t : Int) :
    Calls Tryz.prog 223 #[.slice (some ⟨g, 0, none⟩) m cap, .int .u64 t] w fun e w' => e = .returned (.tuple #[]) ∧ w.grownBy w' (some g) ∧ Blk w' g 22 (.int .u64 t :: (L.take (m - 1) ++ L.drop m)) := by
  by_cases e : cap = 1
  · obtain rfl : m = 1 := by omega
    subst e
    exact rotate_one hB hL t
  · exact rotate_big hB h1 hm hL hc e hcm hone t
end Go.Proofs.YtkbpnkjjmipjfaaGreat.C
namespace Go.Proofs.YtkbpnkjjmipjfaaGreat.C
open Go.ChangeShapes Go.WideShapes Go.ChangeAt Go.RowKit
set_option linter.unusedVariables false
set_option maxRecDepth 8192

theorem tv_one (l : List Int) : ∀ v ∈ tv l, v.oneCell' = true := by
  intro v hv
  simp only [tv, List.mem_map] at hv
  obtain ⟨i, _, rfl⟩ := hv
  rfl
structure Pt (w : World) (F : Nat → Prop) (p b n ways : Nat) (V : Nat → Value) (f : Nat → List Int) : Prop where
  lt : ∀ k, F k → k < w.heap.size
  c : Cch w p b n ways V f
  fp : F p
  fb : F b
  fv : ∀ i g, i < n → (V i).ownBlock = some g → F g
theorem Ca.parts {w : World} {F : Nat → Prop} {p n ways : Nat} {f : Nat → List Int} (h : Ca w F p n ways f) : ∃ b V, Pt w F p b n ways V f := by
  obtain ⟨h1, b, V, hC, hp, hb, hV⟩ := h
  exact ⟨b, V, h1, hC, hp, hb, hV⟩
theorem Pt.turn_in {w w' : World} {F : Nat → Prop} {p b n ways : Nat} {V : Nat → Value} {f : Nat → List Int} (h : Pt w F p b n ways V f) (i : Nat) (hi : i < n) (l' : List Int) (g : Nat) (hg : (V i).ownBlock = some g)
    (G : w.grownBy w' (some g)) (ho : Own w' (V i) l') (hl : l'.length ≤ ways) (hn : l'.Nodup) (hok : okT l') : ∃ F', Ca w' F' p n ways (put f i l') ∧ Kp F F' w w' := by
  have hbg : b ≠ g := fun e => h.c.vb i hi (by rw [hg, e])
  have eb : w'.heap[b]? = w.heap[b]? := G.block b h.c.blt (some_ne hbg)
  have pV : put V i (V i) = V := by
    funext j
    unfold put
    split
    · rename_i e; rw [e]
    · rfl
  have hT := h.c.turn (w' := w') i hi (V i) l' G.size (fun k hk _ hne => G.block k hk (by rw [← hg]; exact hne)) (fun j hj => by rw [pV]; exact (World.cell?_of_block (w := w) (a := ⟨b, j, none⟩) eb).trans (h.c.row j hj))
    (fun j hj => (World.frozen?_of_block (w := w) (a := ⟨b, j, none⟩) eb).trans (h.c.fz j hj)) ho (fun g' hg' => Or.inl hg') hl hn hok
  rw [pV] at hT
  refine ⟨_, Ca.turned h.lt h.fp h.fb h.fv G.size hT (fun j g' hj hg' => Or.inl (h.fv j g' hj hg')), Kp.of_grown G (fun g' e => by cases e; exact h.fv i g hi hg) (fun k hk => ?_)⟩
  rcases hk with q | q
  · exact Or.inl q
  · exact Or.inr q.1
theorem Pt.turn_new {w w1 w3 : World} {F : Nat → Prop} {p b n ways : Nat} {V : Nat → Value} {f : Nat → List Int} (h : Pt w F p b n ways V f) (i : Nat) (hi : i < n) (l' : List Int) (g m cap : Nat)
    (G1 : w.grownBy w1 (V i).ownBlock) (hat : (V i).ownBlock = some g ∨ w.heap.size ≤ g) (G3 : (w1.setCell ⟨b, i, none⟩ (.slice (some ⟨g, 0, none⟩) m cap)).grownBy w3 (some g))
    (ho : Own w3 (.slice (some ⟨g, 0, none⟩) m cap) l') (hl : l'.length ≤ ways) (hn : l'.Nodup) (hok : okT l') : ∃ F', Ca w3 F' p n ways (put f i l') ∧ Kp F F' w w3 := by
  have G2 := grown_setCell' w1 b i (.slice (some ⟨g, 0, none⟩) m cap)
  have hbg : b ≠ g := by
    intro e
    rcases hat with q | q
    · exact h.c.vb i hi (by rw [q, e])
    · have := h.c.blt; omega
  have s12 := G2.size
  have s1 := G1.size
  have s3 := G3.size
  have eb1 : w1.heap[b]? = w.heap[b]? := G1.block b h.c.blt (fun e => h.c.vb i hi e.symm)
  have eb3 : w3.heap[b]? = (w1.setCell ⟨b, i, none⟩ (.slice (some ⟨g, 0, none⟩) m cap)).heap[b]? := G3.block b (by have := h.c.blt; omega) (some_ne hbg)
  have bk : ∀ k, k < w.heap.size → k ≠ b → some k ≠ (V i).ownBlock → w3.heap[k]? = w.heap[k]? := by
    intro k hk hkb hkv
    have hkg : k ≠ g := by
      intro e
      rcases hat with q | q
      · exact hkv (by rw [q, e])
      · omega
    exact ((G3.block k (by omega) (some_ne hkg)).trans (G2.block k (by omega) (some_ne hkb))).trans (G1.block k hk hkv)
  have hT := h.c.turn (w' := w3) i hi (.slice (some ⟨g, 0, none⟩) m cap) l' (by omega) bk (fun j hj => by
      rw [World.cell?_of_block (w := w1.setCell ⟨b, i, none⟩ (.slice (some ⟨g, 0, none⟩) m cap)) (a := ⟨b, j, none⟩) eb3]
      have e1 := fun j hj => (World.cell?_of_block (w := w) (a := ⟨b, j, none⟩) eb1).trans (h.c.row j hj)
      by_cases e : j = i
      · subst e
        rw [put_same, World.cell?_setCell_same _ _ _ (e1 j hj)]
      · rw [put_other _ _ _ _ e, World.cell?_setCell_other _ _ _ _ (by intro h; cases h; exact e rfl)]
        exact e1 j hj)
    (fun j hj => by
      rw [World.frozen?_of_block (w := w1.setCell ⟨b, i, none⟩ (.slice (some ⟨g, 0, none⟩) m cap)) (a := ⟨b, j, none⟩) eb3, World.frozen?_setCell]
      exact (World.frozen?_of_block (w := w) (a := ⟨b, j, none⟩) eb1).trans (h.c.fz j hj)) ho (fun g' hg' => by cases hg'; exact hat) hl hn hok
  have size : w.heap.size ≤ w3.heap.size := by omega
  refine ⟨_, Ca.turned h.lt h.fp h.fb h.fv size hT (fun j g' hj hg' => ?_), ⟨(G3.os.trans G2.os).trans G1.os, (G3.tape.trans G2.tape).trans G1.tape, (G3.output.trans G2.output).trans G1.output, size, fun k hk hF => bk k hk (fun e => hF (e ▸ h.fb)) (fun e => hF (h.fv i k hi e.symm)), fun k hk => ?_⟩⟩
  · by_cases e : j = i
    · subst e
      rw [put_same] at hg'
      cases hg'
      rcases hat with q | q
      · exact Or.inl (h.fv j g hj q)
      · exact Or.inr q
    · rw [put_other _ _ _ _ e] at hg'
      exact Or.inl (h.fv j g' hj hg')
  · rcases hk with q | q
    · exact Or.inl q
    · exact Or.inr q.1
def Tch (w : World) (F : Nat → Prop) (p n ways : Nat) (f : Nat → List Int) (i : Nat) (t : Int) (w' : World) : Prop := ∃ F', Ca w' F' p n ways (put f i (tch ways t (f i))) ∧ Kp F F' w w'
theorem take_front {v : Value} {A B : List Value} {k m : Nat} (hA : A.length = k) : (v :: (A ++ B)).take (k + 1 + m) = v :: (A ++ B.take m) := by
  rw [show k + 1 + m = (k + m) + 1 by omega, List.take_succ_cons, List.take_append, List.take_of_length_le (by omega), hA]
  congr 3
  omega
theorem owns_blk {w : World} {g m cap : Nat} {xs : List Value} (o : w.ownsRow 0 22 1 (.slice (some ⟨g, 0, none⟩) m cap) m xs) : ∃ L, Blk w g 22 L ∧ m ≤ cap ∧ cap ≤ maxLen ∧ L.length = cap ∧ L.take m = xs := by
  rcases o.2 with ⟨hnil, _⟩ | ⟨g', cap', cur, hv, hbase, hb, h1, h2, h3, h4⟩
  · cases hnil
  · cases hv
    refine ⟨cur.toList, ?_, h1, h2, by simpa using h3, by simpa using h4⟩
    unfold Blk
    simpa using hb
theorem Pt.far {w w1 : World} {F : Nat → Prop} {p b n ways : Nat} {V : Nat → Value} {f : Nat → List Int} (h : Pt w F p b n ways V f) {i : Nat} (hi : i < n) (G : w.grownBy w1 (V i).ownBlock) :
    w1.cell? ⟨p, 1, none⟩ = some (.slice (some ⟨b, 0, none⟩) n n) ∧ w1.cell? ⟨b, i, none⟩ = some (V i) ∧ w1.frozen? ⟨b, i, none⟩ = false :=
  ⟨(G.cell_far ⟨p, 1, none⟩ h.c.lt (fun e => h.c.vp i hi e.symm)).trans h.c.c1, (G.cell_far ⟨b, i, none⟩ h.c.blt (fun e => h.c.vb i hi e.symm)).trans (h.c.row i hi), (G.frozen_far ⟨b, i, none⟩ h.c.blt (fun e => h.c.vb i hi e.symm)).trans (h.c.fz i hi)⟩
set_option maxHeartbeats 1000000 in
theorem Touch_hit {w : World} {F : Nat → Prop} {p n ways : Nat} {f : Nat → List Int} (h : Ca w F p n ways f) (i : Nat) (hi : i < n) (t : Int) (h0 : 0 ≤ t) (h1 : t < 18446744073709551616) (hm : t ∈ f i) :
    Calls Tryz.prog 177 #[.pointer (some ⟨p, 0, none⟩), .int .i64 i, .int .u64 t] w fun e w' => e = .returned (.tuple #[.bool true, .int .i64 0]) ∧ Tch w F p n ways f i t w' := by
  obtain ⟨b, V, hP⟩ := h.parts
  have ho := hP.c.own i hi
  have hl := hP.c.len i hi
  have h16 := hP.c.w16
  have hn4 := hP.c.n4
  obtain ⟨g, cap, L, hv, hB, c1, c2, c3, c4⟩ := ho.shape.resolve_left (by rintro ⟨_, e⟩; rw [e] at hm; simp at hm)
  obtain ⟨k, hk⟩ : ∃ k, (f i).idxOf t = k := ⟨_, rfl⟩
  have hkl : k < (f i).length := by rw [← hk]; exact List.idxOf_lt_length_of_mem hm
  have hkt : (f i)[k]? = some t := by subst hk; rw [List.getElem?_eq_getElem (List.idxOf_lt_length_of_mem hm), List.getElem_idxOf]
  have hix : idx (f i) t = k := by unfold idx; rw [if_pos hm, hk]
  have HT : Hid (Calls _ _ _ _ _) := tags_ok hP.c i hi
  have HI : Hid (Calls _ _ _ _ _) := Index_any ho (by omega) t
  rw [hix] at HI
  have HR : Hid (Calls _ _ _ _ _) := rotate_ok (m := k + 1) hB (by omega) (by omega) (by omega) (by omega) c2 (by
    intro v hv
    have : L.take (k + 1) = (L.take (f i).length).take (k + 1) := by rw [List.take_take, Nat.min_eq_left (by omega)]
    rw [this, c4] at hv
    exact tv_one _ v (List.mem_of_mem_take hv)) t
  have HE : Hid (∀ w', w.grownBy w' (some g) → Blk w' g 22 (.int .u64 t :: (L.take (k + 1 - 1) ++ L.drop (k + 1))) → Tch w F p n ways f i t w') := by
    intro w' G hB'
    have et : tch ways t (f i) = t :: ((f i).take k ++ (f i).drop (k + 1)) := tch_found (hP.c.nod i hi) hkt hl
    have el : (tch ways t (f i)).length = (f i).length := by rw [et]; simp; omega
    refine hP.turn_in i hi (tch ways t (f i)) g (by rw [hv]; rfl) G ?_ (tch_len _ _ _) (tch_nodup _ _ (hP.c.nod i hi)) (tch_ok _ (hP.c.ok i hi) h0 h1)
    rw [hv, ← el]
    refine Own.of_blk hB' (by omega) c2 (by simp; omega) ?_
    rw [el, et]
    have e2 : (L.take k).length = k := by simp; omega
    rw [show (f i).length = k + 1 + ((f i).length - (k + 1)) by omega, Nat.add_sub_cancel, take_front e2]
    have e3 : tv (t :: ((f i).take k ++ (f i).drop (k + 1))) = .int .u64 t :: ((tv (f i)).take k ++ (tv (f i)).drop (k + 1)) := by simp [tv]
    rw [e3, ← c4, List.take_take, Nat.min_eq_left (by omega), List.drop_take]
  rw [hv] at HT HI
  clear ho hP h c4 c3 hB hv
  unfold maxLen at c2
  go_enter Tryz.func177, Tryz.ntmps177
  go_wp2_with fail
  refine HT.out.mono ?_
  rintro e w' ⟨rfl, rfl⟩
  go_wp2_with fail
  refine HI.out.mono ?_
  rintro e w' ⟨rfl, rfl⟩
  go_wp2_with fail
  refine HR.out.mono ?_
  rintro e w' ⟨rfl, G, hB'⟩
  have HX : Hid (Tch _ F p n ways f i t w') := HE.out w' G hB'
  clear HE G hB' HR HT HI
  go_wp2
  go_ret2
  exact ⟨rfl, HX.out⟩
set_option maxHeartbeats 1000000 in
theorem Touch_full {w : World} {F : Nat → Prop} {p n ways : Nat} {f : Nat → List Int} (h : Ca w F p n ways f) (i : Nat) (hi : i < n) (t : Int) (h0 : 0 ≤ t) (h1 : t < 18446744073709551616) (hm : t ∉ f i) (hf : (f i).length = ways) :
    Calls Tryz.prog 177 #[.pointer (some ⟨p, 0, none⟩), .int .i64 i, .int .u64 t] w fun e w' => e = .returned (.tuple #[.bool false, .int .i64 0]) ∧ Tch w F p n ways f i t w' := by
  obtain ⟨b, V, hP⟩ := h.parts
  have ho := hP.c.own i hi
  have hl := hP.c.len i hi
  have h16 := hP.c.w16
  have hw1 := hP.c.w1
  have hn4 := hP.c.n4
  have hc0 := hP.c.c0
  obtain ⟨g, cap, L, hv, hB, c1, c2, c3, c4⟩ := ho.shape.resolve_left (by rintro ⟨_, e⟩; rw [e] at hf; simp at hf; omega)
  have hix : idx (f i) t = -1 := by unfold idx; rw [if_neg hm]
  have HT : Hid (Calls _ _ _ _ _) := tags_ok hP.c i hi
  have HI : Hid (Calls _ _ _ _ _) := Index_any ho (by omega) t
  rw [hix] at HI
  have HR : Hid (Calls _ _ _ _ _) := rotate_ok (m := (f i).length) hB (by omega) (by omega) (by omega) (by omega) c2 (by
    intro v hv
    rw [c4] at hv
    exact tv_one _ v hv) t
  have HE : Hid (∀ w', w.grownBy w' (some g) → Blk w' g 22 (.int .u64 t :: (L.take ((f i).length - 1) ++ L.drop (f i).length)) → Tch w F p n ways f i t w') := by
    intro w' G hB'
    have et : tch ways t (f i) = t :: ((f i).take (ways - 1)) := tch_full hm hw1
    have el : (tch ways t (f i)).length = (f i).length := by rw [et]; simp; omega
    refine hP.turn_in i hi (tch ways t (f i)) g (by rw [hv]; rfl) G ?_ (tch_len _ _ _) (tch_nodup _ _ (hP.c.nod i hi)) (tch_ok _ (hP.c.ok i hi) h0 h1)
    rw [hv, ← el]
    refine Own.of_blk hB' (by omega) c2 (by simp; omega) ?_
    rw [el, et]
    have e2 : (L.take ((f i).length - 1)).length = (f i).length - 1 := by simp; omega
    have e4 := take_front (v := .int .u64 t) (B := L.drop (f i).length) (m := 0) e2
    rw [show (f i).length - 1 + 1 + 0 = (f i).length by omega] at e4
    rw [e4]
    have e3 : tv (t :: ((f i).take (ways - 1))) = .int .u64 t :: ((tv (f i)).take (ways - 1)) := by simp [tv]
    rw [e3, ← c4, List.take_take, Nat.min_eq_left (by omega), ← hf]
    simp
  rw [hv] at HT HI
  clear ho hP h c4 c3 hB hv
  rw [hf] at HT HI HR HE
  unfold maxLen at c2
  go_enter Tryz.func177, Tryz.ntmps177
  go_wp2_with fail
  refine HT.out.mono ?_
  rintro e w' ⟨rfl, rfl⟩
  go_wp2_with fail
  refine HI.out.mono ?_
  rintro e w' ⟨rfl, rfl⟩
  go_wp2_with fail
  refine HR.out.mono ?_
  rintro e w' ⟨rfl, G, hB'⟩
  have HX : Hid (Tch _ F p n ways f i t w') := HE.out w' G hB'
  clear HE G hB' HR HT HI
  go_wp2
  go_ret2
  exact ⟨rfl, HX.out⟩
set_option maxHeartbeats 1000000 in
theorem Touch_new {w : World} {F : Nat → Prop} {p n ways : Nat} {f : Nat → List Int} (h : Ca w F p n ways f) (i : Nat) (hi : i < n) (t : Int) (h0 : 0 ≤ t) (h1 : t < 18446744073709551616) (hm : t ∉ f i) (hf : (f i).length < ways) :
    Calls Tryz.prog 177 #[.pointer (some ⟨p, 0, none⟩), .int .i64 i, .int .u64 t] w fun e w' => e = .returned (.tuple #[.bool false, .int .i64 0]) ∧ Tch w F p n ways f i t w' := by
  obtain ⟨i0, hi0, hz0, hz1, hz2⟩ := info_parts Tryz.infoU
  obtain ⟨b, V, hP⟩ := h.parts
  have ho := hP.c.own i hi
  have h16 := hP.c.w16
  have hn4 := hP.c.n4
  have hc0 := hP.c.c0
  have hplt := hP.c.lt
  have hblt := hP.c.blt
  obtain ⟨a0, cap0, hv⟩ := ho.len
  have hix : idx (f i) t = -1 := by unfold idx; rw [if_neg hm]
  have HT : Hid (Calls _ _ _ _ _) := tags_ok hP.c i hi
  have HI : Hid (Calls _ _ _ _ _) := Index_any ho (by omega) t
  rw [hix] at HI
  have HO : Hid (w.ownsRow 0 22 1 (V i) (f i).length (tv (f i))) := ho
  have HP : Hid (Pt w F p b n ways V f) := hP
  clear ho hP h hix
  have HV : Hid (V i = .slice a0 (f i).length cap0) := hv
  rw [hv] at HT HI HO
  clear hv
  obtain ⟨m, hmm⟩ : ∃ m, (f i).length = m := ⟨_, rfl⟩
  have HM : Hid ((f i).length = m) := hmm
  rw [hmm] at HT HI HO HV hf
  clear hmm
  go_enter Tryz.func177, Tryz.ntmps177
  go_wp2_with fail
  refine HT.out.mono ?_
  rintro e w' ⟨rfl, rfl⟩
  go_wp2_with fail
  refine HI.out.mono ?_
  rintro e w' ⟨rfl, rfl⟩
  clear HT HI
  go_wp2_with (at_builtin; refine wpList_append_lies _ rfl (.tmp 38) (.tmp 40) 152 rfl 0 22 i0 _ 1 8 Tryz.underlying152 hi0 hz0 hz1 hz2 rfl (by decide) (.slice a0 m cap0) m (tv (f i)) rfl (World.ownsRow.alloc HO.out _) ⟨w'.heap.size, 0, none⟩ 1 1 [.int .u64 t] rfl rfl (cell_one_new _ _ _) (by intro u hu; simp at hu; subst hu; rfl) (by omega) (by unfold maxLen; omega) (by omega) (Nat.zero_le _) (w'.heap.size + 1) (by simp) ?_; intro g1 k1 w1 o1 gr1 at1 lt1; have G1 : Hid (w'.grownBy w1 (V i).ownBlock) := (by rw [HV.out]; exact (World.grownBy_alloc _ _ _).trans gr1); have d1 := Pt.far HP.out hi G1.out; obtain ⟨d1, d2, d3⟩ := d1; rw [HV.out] at d2; clear gr1)
  have HO1 : Hid (w1.ownsRow 0 22 1 (.slice (some ⟨g1, 0, none⟩) (m + 1) k1) (m + 1) (tv (f i) ++ [.int .u64 t])) := o1
  have A1 : Hid ((V i).ownBlock = some g1 ∨ w'.heap.size ≤ g1) := by
    rw [HV.out]
    rcases at1 with q | q
    · exact Or.inl q
    · exact Or.inr (by omega)
  clear o1 at1 d1 d2 d3 hc0
  have hbg : b ≠ g1 := by
    intro e
    rcases A1.out with q | q
    · exact HP.out.c.vb i hi (by rw [q, e])
    · omega
  obtain ⟨L, hB, r1, r2, r3, r4⟩ := owns_blk HO1.out
  have hB2 : Blk (w1.setCell ⟨b, i, none⟩ (.slice (some ⟨g1, 0, none⟩) (m + 1) k1)) g1 22 L := hB.kept (grown_setCell' _ _ _ _) (some_ne hbg.symm)
  have HR : Hid (Calls _ _ _ _ _) := rotate_ok (m := m + 1) hB2 (by omega) (by omega) (by omega) r1 r2 (by
    intro v hv
    rw [r4] at hv
    rcases List.mem_append.1 hv with q | q
    · exact tv_one _ v q
    · simp at q; subst q; rfl) t
  refine HR.out.mono ?_
  rintro e w2 ⟨rfl, G3, hB'⟩
  have HX : Hid (Tch w' F p n ways f i t w2) := by
    have et : tch ways t (f i) = t :: f i := tch_new hm (by rw [HM.out]; exact hf)
    have el : (tch ways t (f i)).length = m + 1 := by rw [et]; simp [HM.out]
    refine HP.out.turn_new i hi _ g1 (m + 1) k1 G1.out A1.out G3 ?_ (tch_len _ _ _) (tch_nodup _ _ (HP.out.c.nod i hi)) (tch_ok _ (HP.out.c.ok i hi) h0 h1)
    rw [← el]
    refine Own.of_blk hB' (by omega) r2 (by simp; omega) ?_
    rw [el, et]
    have e2 : (L.take m).length = m := by simp; omega
    have e4 := take_front (v := .int .u64 t) (B := L.drop (m + 1)) (m := 0) e2
    rw [Nat.add_sub_cancel, e4]
    have e5 : L.take m = tv (f i) := by
      have : L.take m = (L.take (m + 1)).take m := by rw [List.take_take, Nat.min_eq_left (by omega)]
      rw [this, r4, List.take_append_of_le_length (by rw [tv_len, HM.out]; exact Nat.le_refl _), List.take_of_length_le (by rw [tv_len, HM.out]; exact Nat.le_refl _)]
    rw [e5]
    simp [tv]
  clear HR hB2 hB hB' G3 G1 HO1 HO HP
  go_wp2
  go_ret2
  exact ⟨rfl, HX.out⟩
theorem Touch_ok {w : World} {F : Nat → Prop} {p n ways : Nat} {f : Nat → List Int} (h : Ca w F p n ways f) (i : Nat) (hi : i < n) (t : Int) (h0 : 0 ≤ t) (h1 : t < 18446744073709551616) :
    Calls Tryz.prog 177 #[.pointer (some ⟨p, 0, none⟩), .int .i64 i, .int .u64 t] w fun e w' => e = .returned (.tuple #[.bool (decide (t ∈ f i)), .int .i64 0]) ∧ Tch w F p n ways f i t w' := by
  by_cases hm : t ∈ f i
  · rw [decide_eq_true hm]
    exact Touch_hit h i hi t h0 h1 hm
  · rw [decide_eq_false hm]
    obtain ⟨b, V, hP⟩ := h.parts
    have hl := hP.c.len i hi
    by_cases hf : (f i).length = ways
    · exact Touch_full h i hi t h0 h1 hm hf
    · exact Touch_new h i hi t h0 h1 hm (by omega)
end Go.Proofs.YtkbpnkjjmipjfaaGreat.C
namespace Go.Proofs.YtkbpnkjjmipjfaaGreat.C
open Go.ChangeShapes Go.WideShapes Go.ChangeAt Go.RowKit
set_option linter.unusedVariables false
set_option maxRecDepth 8192

end Go.Proofs.YtkbpnkjjmipjfaaGreat.C
