/- Numbers put behind a row of numbers; slices.Grow of a list that is none, Concat of two rows; no condition but those that each theorem names. -/
import Derived.Test.YtimeoinmepfpnaaRg
import Derived.Maps.AppendAt
namespace Go.Proofs.Ytimeoinmepfpnaa.Ri
open Go.ChangeShapes Go.WideShapes Go.ChangeAt Go.RowKit
set_option linter.unusedVariables false
set_option maxRecDepth 8192

theorem Try.infoI : (Try.prog.info? 3).map (fun i => (i.zero, i.size, i.bytes)) = some (some (.int .i64 0), 1, 8) := by kernel_rfl
theorem grown_refl (w : World) (r : Option Nat) : w.grownBy w r := ⟨rfl, rfl, rfl, Nat.le_refl _, fun _ _ _ => rfl⟩
/-- Where something of no length is appended. -/
theorem app_nothing (w : World) (ty : TypeId) (ao ax : Option Addr) (n c cx : Nat) (hle : n ≤ c) : (Builtin.append_ #[33, 33] ty #[.slice ao n c, .slice ax 0 cx]).run Try.prog w = .ok (.slice ao n c) w := by
  obtain ⟨i0, hi0, hz0, hz1, hz2⟩ := info_parts Try.infoI
  refine run_append_nothing w 33 33 ty 3 i0 Try.underlying33 hi0 ao n c hle _ ?_
  cases ax with
  | none => exact Src.ofNil w Try.underlying33 cx
  | some a => exact Src.ofSlice w Try.underlying33 a 0 cx [] (by simp) (fun j u h => by simp at h) (fun u h => by simp at h)
/-- What a call leaves that puts numbers behind a row of its own. -/
def Jn (w : World) (v : Value) (l : List Int) (v' : Value) (w' : World) : Prop := Own w' v' l ∧ w.grownBy w' v.ownBlock ∧ ∀ g, v'.ownBlock = some g → v.ownBlock = some g ∨ w.heap.size ≤ g
theorem app_own {w : World} {v vx : Value} {l k : List Int} (h : Own w v l) (hk : Lst w vx k) (hle : l.length + k.length ≤ 100000) (ty : TypeId) :
    ∃ v' w', (Builtin.append_ #[33, 33] ty #[v, vx]).run Try.prog w = .ok v' w' ∧ Jn w v (l ++ k) v' w' := by
  obtain ⟨i0, hi0, hz0, hz1, hz2⟩ := info_parts Try.infoI
  obtain ⟨ax, cx, rfl, hk⟩ := hk
  by_cases hk0 : k = []
  · subst hk0
    refine ⟨v, w, ?_, by rw [List.append_nil]; exact h, grown_refl _ _, fun g hg => Or.inl hg⟩
    rcases h.shape with ⟨rfl, h2⟩ | ⟨g', cap, L, rfl, hB, h1, _⟩
    · exact app_nothing w ty none ax 0 0 cx (Nat.le_refl _)
    · exact app_nothing w ty _ ax _ cap cx h1
  · obtain ⟨b, off, rfl, hc⟩ := hk.resolve_left hk0
    obtain ⟨v', w', hr, ho, hg, _, hat⟩ := run_append_own_at w 0 33 ty 3 i0 _ 1 8 Try.underlying33 hi0 hz0 hz1 hz2 rfl (by decide) v l.length (tv l) h ⟨b, off, none⟩ k.length cx (tv k) (by rw [tv_len, Nat.mul_one]) (fun j u hj => by
      rw [tv_get] at hj
      obtain ⟨t, ht, rfl⟩ := Option.map_eq_some_iff.1 hj
      rw [Addr.add_lit]
      exact hc j t ht) (tv_one k) (by unfold maxLen; omega) (by omega) (Nat.zero_le _)
    refine ⟨v', w', hr, ?_, hg, fun g hg' => ?_⟩
    · unfold Own
      rw [tv_app, List.length_append]
      exact ho
    · rcases hat with q | q
      · exact Or.inl (by rw [← q]; exact hg')
      · right
        rw [hg'] at q
        have : g = w.heap.size := by injection q
        omega
theorem Jn.from {w W : World} {v : Value} {l : List Int} {v' : Value} {w' : World} (h : Jn W v l v' w') (k : w.grownBy W v.ownBlock) : Jn w v l v' w' := ⟨h.1, k.trans h.2.1, fun g hg => (h.2.2 g hg).imp id (fun q => Nat.le_trans k.size q)⟩
theorem wpList_app {w : World} {ops : Array Oper} {rest : List Oper} {o : Oper} {a : Act} {Q : Exit → Act → World → Prop} {R : Value → World → Prop} (hgd : o.guard = none) (s x : Operand)
    (ho : o.op = .call { callee := .builtin .append, args := #[s, x], argTypes := #[33, 33] }) (vs vx : Value) (hs : a.eval s = vs) (hx : a.eval x = vx)
    (hr : ∃ v' w', (Builtin.append_ #[33, 33] o.type #[vs, vx]).run Try.prog w = .ok v' w' ∧ R v' w') (h : ∀ v' w', R v' w' → wpList Try.prog ops Q rest (a.put o.dst v') w') : wpList Try.prog ops Q (o :: rest) a w :=
  wpList_plain hgd fun _ hK => by
    obtain ⟨v', w', hr, hR⟩ := hr
    unfold Oper.wp execOp
    simp only [ho, resolve, invoke, builtin, Sem.run_bind, Sem.run_pure, Result.andThen_ok, List.map_toArray, List.map_cons, List.map_nil, hs, hx, hr]
    exact hK _ _ (h v' w' hR)
theorem cell_lt {w : World} {g i : Nat} {v : Value} (h : w.cell? ⟨g, i, none⟩ = some v) : g < w.heap.size := by
  by_cases q : g < w.heap.size
  · exact q
  · have e : w.heap[g]? = none := Array.getElem?_eq_none (by omega)
    simp [World.cell?, e] at h
theorem Lst.below {w w' : World} {v : Value} {l : List Int} (h : Lst w v l) (k : Below w.heap.size w w') : Lst w' v l := by
  obtain ⟨q, cap, e, h⟩ := h
  refine ⟨q, cap, e, h.imp id (fun ⟨g, o, e2, hc⟩ => ⟨g, o, e2, fun i t ht => ?_⟩)⟩
  have := hc i t ht
  have hg : g < w.heap.size := cell_lt this
  exact (World.cell?_of_block (w := w) (a := ⟨g, o + i, none⟩) (k.block g hg)).trans this
/-- What is behind the hand, ahead of it. -/
theorem Own.from {w : World} {g cap h : Nat} {l : List Int} (ho : Own w (.slice (some ⟨g, 0, none⟩) l.length cap) l) (hh : h ≤ l.length) (c : Nat) : Lst w (.slice (some ⟨g, h, none⟩) (l.length - h) c) (l.drop h) :=
  ⟨_, _, by rw [List.length_drop], Or.inr ⟨g, h, rfl, fun i t ht => ho.cells (by rw [List.getElem?_drop] at ht; exact ht)⟩⟩
theorem Own.upto {w : World} {g cap h : Nat} {l : List Int} (ho : Own w (.slice (some ⟨g, 0, none⟩) l.length cap) l) (hh : h ≤ l.length) (c : Nat) : Lst w (.slice (some ⟨g, 0, none⟩) h c) (l.take h) :=
  ⟨_, _, by rw [List.length_take, Nat.min_eq_left hh], Or.inr ⟨g, 0, rfl, fun i t ht => by
    rw [Nat.zero_add]
    refine ho.cells ?_
    by_cases q : i < h
    · rw [List.getElem?_take_of_lt q] at ht; exact ht
    · rw [List.getElem?_eq_none (by rw [List.length_take]; omega)] at ht; cases ht⟩⟩
theorem Grow_none (n : Nat) (hn : n ≤ 5000) (w : World) : Calls Try.prog 40 #[.slice none 0 0, .int .i64 n] w fun e w' => ∃ v, e = .returned v ∧ Own w' v [] ∧ Below w.heap.size w w' ∧ ∀ g, v.ownBlock = some g → w.heap.size ≤ g := by
  by_cases h0 : n = 0
  · subst h0
    have C := Any8.slices_Grow_room groA none 0 0 0 w (by omega) (by omega) (by omega) (by omega)
    rw [show groA_ren.f 4 = 40 from rfl] at C
    refine C.mono ?_
    rintro e w' ⟨rfl, rfl⟩
    exact ⟨_, rfl, Own.nil _, Below.refl _ _, fun g e => by cases e⟩
  · obtain ⟨i0, hi0, hz0, hz1, hz2⟩ := info_parts Try.infoI
    have C := Any8.slices_Grow_grow groA i0 (.int .i64 0) hi0 hz0 (by omega) none 0 0 n [] w (by omega) (by omega) (by rw [hz2]; omega) (by omega) (by simp) (fun _ => rfl) (fun a e => by cases e)
    rw [show groA_ren.f 4 = 40 from rfl, show groA_ren.t 25 = 3 from rfl] at C
    refine C.mono ?_
    rintro e w' ⟨rfl, rfl⟩
    have hge := grownCap_ge w (0 + n) 0 3
    have hle := grownCap_le_maxLen w (0 + n) 0 3 (by unfold maxLen; omega)
    refine ⟨_, rfl, ?_, bs (below_drew w) (below1 _ _), fun g e => by cases e; exact Nat.le_refl _⟩
    rw [zeros_list, zeros_list, List.append_toArray, List.append_toArray]
    generalize grownCap w (0 + n) 0 3 = X at *
    have hblk := blk_new w.drew ([] ++ List.replicate (0 + n - 0) (Value.int .i64 0) ++ List.replicate (X - (0 + n)) (Value.int .i64 0)) 3
    exact Own.of_blk (l := []) (cap := X) (g := w.drew.heap.size) hblk (by simp) hle (by simp; omega) (by simp [tv])
set_option maxHeartbeats 1000000 in
theorem Concat_ok {w : World} {q1 q2 : Option Addr} {n1 n2 c1 c2 b : Nat} {A B : List Int} (h1 : Lst w (.slice q1 n1 c1) A) (h2 : Lst w (.slice q2 n2 c2) B) (e1 : A.length = n1) (e2 : B.length = n2) (hb : Blk w b 33 [.slice q1 n1 c1, .slice q2 n2 c2]) (hl : n1 + n2 ≤ 5000) :
    Calls Try.prog 32 #[.slice (some ⟨b, 0, none⟩) 2 2] w fun e w' => ∃ v, e = .returned v ∧ Own w' v (A ++ B) ∧ Below w.heap.size w w' ∧ ∀ g, v.ownBlock = some g → w.heap.size ≤ g := by
  have k0 : w.cell? ⟨b, 0, none⟩ = some (.slice q1 n1 c1) := hb.cell 0
  have k1 : w.cell? ⟨b, 1, none⟩ = some (.slice q2 n2 c2) := hb.cell 1
  have H1 : Hid (Lst w (.slice q1 n1 c1) A) := h1
  have H2 : Hid (Lst w (.slice q2 n2 c2) B) := h2
  have HB : Hid (Blk w b 33 [.slice q1 n1 c1, .slice q2 n2 c2]) := hb
  have GR := Grow_none (n1 + n2) hl w
  rw [show ((n1 + n2 : Nat) : Int) = (n1 : Int) + n2 by omega] at GR
  clear h1 h2 hb
  go_enter Try.func32, Try.ntmps32
  go_wp2
  go_loop [3, 11] (fun z i => (i = .int .i64 0 ∧ z = .int .i64 0) ∨ (i = .int .i64 1 ∧ z = .int .i64 n1) ∨ (i = .int .i64 2 ∧ z = .int .i64 ((n1 : Int) + n2))) (fun _ i => 2 - (intOf i).toNat)
  case atStart => exact Or.inl ⟨rfl, rfl⟩
  case round =>
    rcases hrel with ⟨rfl, rfl⟩ | ⟨rfl, rfl⟩ | ⟨rfl, rfl⟩
    · clear GR
      go_wp2
      go_round
      case rel => exact Or.inr (Or.inl ⟨rfl, by go_num⟩)
      case measure => simp [intOf]
    · clear GR
      go_wp2
      go_round
      case rel => exact Or.inr (Or.inr ⟨rfl, by go_num⟩)
      case measure => simp [intOf]
    · go_wp2_with (go_at_call 40; refine GR.mono ?_; rintro e w1 ⟨v, rfl, o1, b1, f1⟩; have HO : Hid (Own w1 v [] ∧ Below w.heap.size w w1 ∧ ∀ g, v.ownBlock = some g → w.heap.size ≤ g) := ⟨o1, b1, f1⟩; clear o1 b1 f1)
      clear GR
      go_loopw [6, 27] (fun u' i wr => ∃ l u, u = u' ∧ Own wr u l ∧ Below w.heap.size w wr ∧ (∀ g, u.ownBlock = some g → w.heap.size ≤ g) ∧ ((i = .int .i64 0 ∧ l = []) ∨ (i = .int .i64 1 ∧ l = A) ∨ (i = .int .i64 2 ∧ l = A ++ B))) (fun _ i _ => 2 - (intOf i).toNat)
      case atStart => exact ⟨[], _, rfl, HO.out.1, HO.out.2.1, HO.out.2.2, Or.inl ⟨rfl, rfl⟩⟩
      case round =>
        clear HO
        obtain ⟨l, u, hu, o1, b1, f1, hrel⟩ := hrel
        subst hu
        have HW : Hid (Below w.heap.size w wr ∧ ∀ g, u.ownBlock = some g → w.heap.size ≤ g) := ⟨b1, f1⟩
        have k0' : wr.cell? ⟨b, 0, none⟩ = some (.slice q1 n1 c1) := (HB.out.below b1).cell 0
        have k1' : wr.cell? ⟨b, 1, none⟩ = some (.slice q2 n2 c2) := (HB.out.below b1).cell 1
        have HA1 : Hid (∀ ty, l = [] → ∃ v' w', (Builtin.append_ #[33, 33] ty #[u, .slice q1 n1 c1]).run Try.prog wr = .ok v' w' ∧ Jn wr u A v' w') := fun ty e => by
          subst e
          exact app_own o1 (H1.out.below b1) (by simp; omega) ty
        have HA2 : Hid (∀ ty, l = A → ∃ v' w', (Builtin.append_ #[33, 33] ty #[u, .slice q2 n2 c2]).run Try.prog wr = .ok v' w' ∧ Jn wr u (A ++ B) v' w') := fun ty e => by
          subst e
          exact app_own o1 (H2.out.below b1) (by omega) ty
        have HO : Hid (Own wr u l) := o1
        clear o1 b1 f1 k0 k1
        rcases hrel with ⟨rfl, e⟩ | ⟨rfl, e⟩ | ⟨rfl, e⟩
        · have HL : Hid (l = []) := e
          clear e
          go_wp2_with (at_builtin; refine wpList_app rfl (.tmp 31) (.tmp 32) rfl _ _ rfl rfl (HA1.out _ HL.out) ?_; rintro v2 w2 hJ2; have HJ2 : Hid (Jn wr u A v2 w2) := hJ2; clear hJ2)
          go_roundw
          case rel => exact ⟨A, _, rfl, HJ2.out.1, HW.out.1.trans (below_of HJ2.out.2.1 _ HW.out.1.size HW.out.2), fun g hg => (HJ2.out.2.2 g hg).elim (HW.out.2 g) (fun q => Nat.le_trans HW.out.1.size q), Or.inr (Or.inl ⟨rfl, rfl⟩)⟩
          case measure => simp [intOf]
        · have HL : Hid (l = A) := e
          clear e
          go_wp2_with (at_builtin; refine wpList_app rfl (.tmp 31) (.tmp 32) rfl _ _ rfl rfl (HA2.out _ HL.out) ?_; rintro v2 w2 hJ2; have HJ2 : Hid (Jn wr u (A ++ B) v2 w2) := hJ2; clear hJ2)
          go_roundw
          case rel => exact ⟨A ++ B, _, rfl, HJ2.out.1, HW.out.1.trans (below_of HJ2.out.2.1 _ HW.out.1.size HW.out.2), fun g hg => (HJ2.out.2.2 g hg).elim (HW.out.2 g) (fun q => Nat.le_trans HW.out.1.size q), Or.inr (Or.inr ⟨rfl, rfl⟩)⟩
          case measure => simp [intOf]
        · have HL : Hid (l = A ++ B) := e
          clear e
          go_wp2
          go_ret
          exact ⟨u, rfl, by rw [← HL.out]; exact HO.out, HW.out.1, HW.out.2⟩
end Go.Proofs.Ytimeoinmepfpnaa.Ri
