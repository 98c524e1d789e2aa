/- What Touch and Has of package cache give back and write. -/
import Derived.Test.YtokaohlgncmoaaaUHb
import Derived.Maps.AppendAt
namespace Go.Proofs.Ytokaohlgncmoaaa.C
open Go.ChangeShapes Go.WideShapes Go.ChangeAt Go.RowKit
set_option linter.unusedVariables false
set_option maxRecDepth 8192

theorem tv_one (l : List Int) : ∀ v ∈ tv l, v.oneCell' = true := by
  intro v hv
  simp only [tv, List.mem_map] at hv
  obtain ⟨i, _, rfl⟩ := hv
  rfl
structure Pt (w : World) (F : Nat → Prop) (p b n ways : Nat) (V : Nat → Value) (f : Nat → List Int) : Prop where
  lt : ∀ k, F k → k < w.heap.size
  c : Cch w p b n ways V f
  fp : F p
  fb : F b
  fv : ∀ i g, i < n → (V i).ownBlock = some g → F g
theorem Ca.parts {w : World} {F : Nat → Prop} {p n ways : Nat} {f : Nat → List Int} (h : Ca w F p n ways f) : ∃ b V, Pt w F p b n ways V f := by
  obtain ⟨h1, b, V, hC, hp, hb, hV⟩ := h
  exact ⟨b, V, h1, hC, hp, hb, hV⟩
theorem Pt.turn_in {w w' : World} {F : Nat → Prop} {p b n ways : Nat} {V : Nat → Value} {f : Nat → List Int} (h : Pt w F p b n ways V f) (i : Nat) (hi : i < n) (l' : List Int) (g : Nat) (hg : (V i).ownBlock = some g)
    (G : w.grownBy w' (some g)) (ho : Own w' (V i) l') (hl : l'.length ≤ ways) (hn : l'.Nodup) (hok : okT l') : ∃ F', Ca w' F' p n ways (put f i l') ∧ Kp F F' w w' := by
  have hbg : b ≠ g := fun e => h.c.vb i hi (by rw [hg, e])
  have eb : w'.heap[b]? = w.heap[b]? := G.block b h.c.blt (some_ne hbg)
  have pV : put V i (V i) = V := by
    funext j
    unfold put
    split
    · rename_i e; rw [e]
    · rfl
  have hT := h.c.turn (w' := w') i hi (V i) l' G.size (fun k hk _ hne => G.block k hk (by rw [← hg]; exact hne)) (fun j hj => by rw [pV]; exact (World.cell?_of_block (w := w) (a := ⟨b, j, none⟩) eb).trans (h.c.row j hj))
    (fun j hj => (World.frozen?_of_block (w := w) (a := ⟨b, j, none⟩) eb).trans (h.c.fz j hj)) ho (fun g' hg' => Or.inl hg') hl hn hok
  rw [pV] at hT
  refine ⟨_, Ca.turned h.lt h.fp h.fb h.fv G.size hT (fun j g' hj hg' => Or.inl (h.fv j g' hj hg')), Kp.of_grown G (fun g' e => by cases e; exact h.fv i g hi hg) (fun k hk => ?_)⟩
  rcases hk with q | q
  · exact Or.inl q
  · exact Or.inr q.1
theorem Pt.turn_new {w w1 w3 : World} {F : Nat → Prop} {p b n ways : Nat} {V : Nat → Value} {f : Nat → List Int} (h : Pt w F p b n ways V f) (i : Nat) (hi : i < n) (l' : List Int) (g m cap : Nat)
    (G1 : w.grownBy w1 (V i).ownBlock) (hat : (V i).ownBlock = some g ∨ w.heap.size ≤ g) (G3 : (w1.setCell ⟨b, i, none⟩ (.slice (some ⟨g, 0, none⟩) m cap)).grownBy w3 (some g))
    (ho : Own w3 (.slice (some ⟨g, 0, none⟩) m cap) l') (hl : l'.length ≤ ways) (hn : l'.Nodup) (hok : okT l') : ∃ F', Ca w3 F' p n ways (put f i l') ∧ Kp F F' w w3 := by
  have G2 := grown_setCell' w1 b i (.slice (some ⟨g, 0, none⟩) m cap)
  have hbg : b ≠ g := by
    intro e
    rcases hat with q | q
    · exact h.c.vb i hi (by rw [q, e])
    · have := h.c.blt; omega
  have s12 := G2.size
  have s1 := G1.size
  have s3 := G3.size
  have eb1 : w1.heap[b]? = w.heap[b]? := G1.block b h.c.blt (fun e => h.c.vb i hi e.symm)
  have eb3 : w3.heap[b]? = (w1.setCell ⟨b, i, none⟩ (.slice (some ⟨g, 0, none⟩) m cap)).heap[b]? := G3.block b (by have := h.c.blt; omega) (some_ne hbg)
  have bk : ∀ k, k < w.heap.size → k ≠ b → some k ≠ (V i).ownBlock → w3.heap[k]? = w.heap[k]? := by
    intro k hk hkb hkv
    have hkg : k ≠ g := by
      intro e
      rcases hat with q | q
      · exact hkv (by rw [q, e])
      · omega
    exact ((G3.block k (by omega) (some_ne hkg)).trans (G2.block k (by omega) (some_ne hkb))).trans (G1.block k hk hkv)
  have hT := h.c.turn (w' := w3) i hi (.slice (some ⟨g, 0, none⟩) m cap) l' (by omega) bk (fun j hj => by
      rw [World.cell?_of_block (w := w1.setCell ⟨b, i, none⟩ (.slice (some ⟨g, 0, none⟩) m cap)) (a := ⟨b, j, none⟩) eb3]
      have e1 := fun j hj => (World.cell?_of_block (w := w) (a := ⟨b, j, none⟩) eb1).trans (h.c.row j hj)
      by_cases e : j = i
      · subst e
        rw [put_same, World.cell?_setCell_same _ _ _ (e1 j hj)]
      · rw [put_other _ _ _ _ e, World.cell?_setCell_other _ _ _ _ (by intro h; cases h; exact e rfl)]
        exact e1 j hj)
    (fun j hj => by
      rw [World.frozen?_of_block (w := w1.setCell ⟨b, i, none⟩ (.slice (some ⟨g, 0, none⟩) m cap)) (a := ⟨b, j, none⟩) eb3, World.frozen?_setCell]
      exact (World.frozen?_of_block (w := w) (a := ⟨b, j, none⟩) eb1).trans (h.c.fz j hj)) ho (fun g' hg' => by cases hg'; exact hat) hl hn hok
  have size : w.heap.size ≤ w3.heap.size := by omega
  refine ⟨_, Ca.turned h.lt h.fp h.fb h.fv size hT (fun j g' hj hg' => ?_), ⟨(G3.os.trans G2.os).trans G1.os, (G3.tape.trans G2.tape).trans G1.tape, (G3.output.trans G2.output).trans G1.output, size, fun k hk hF => bk k hk (fun e => hF (e ▸ h.fb)) (fun e => hF (h.fv i k hi e.symm)), fun k hk => ?_⟩⟩
  · by_cases e : j = i
    · subst e
      rw [put_same] at hg'
      cases hg'
      rcases hat with q | q
      · exact Or.inl (h.fv j g hj q)
      · exact Or.inr q
    · rw [put_other _ _ _ _ e] at hg'
      exact Or.inl (h.fv j g' hj hg')
  · rcases hk with q | q
    · exact Or.inl q
    · exact Or.inr q.1
def Tch (w : World) (F : Nat → Prop) (p n ways : Nat) (f : Nat → List Int) (i : Nat) (t : Int) (w' : World) : Prop := ∃ F', Ca w' F' p n ways (put f i (tch ways t (f i))) ∧ Kp F F' w w'
theorem take_front {v : Value} {A B : List Value} {k m : Nat} (hA : A.length = k) : (v :: (A ++ B)).take (k + 1 + m) = v :: (A ++ B.take m) := by
  rw [show k + 1 + m = (k + m) + 1 by omega, List.take_succ_cons, List.take_append, List.take_of_length_le (by omega), hA]
  congr 3
  omega
theorem owns_blk {w : World} {g m cap : Nat} {xs : List Value} (o : w.ownsRow 0 22 1 (.slice (some ⟨g, 0, none⟩) m cap) m xs) : ∃ L, Blk w g 22 L ∧ m ≤ cap ∧ cap ≤ maxLen ∧ L.length = cap ∧ L.take m = xs := by
  rcases o.2 with ⟨hnil, _⟩ | ⟨g', cap', cur, hv, hbase, hb, h1, h2, h3, h4⟩
  · cases hnil
  · cases hv
    refine ⟨cur.toList, ?_, h1, h2, by simpa using h3, by simpa using h4⟩
    unfold Blk
    simpa using hb
theorem Pt.far {w w1 : World} {F : Nat → Prop} {p b n ways : Nat} {V : Nat → Value} {f : Nat → List Int} (h : Pt w F p b n ways V f) {i : Nat} (hi : i < n) (G : w.grownBy w1 (V i).ownBlock) :
    w1.cell? ⟨p, 1, none⟩ = some (.slice (some ⟨b, 0, none⟩) n n) ∧ w1.cell? ⟨b, i, none⟩ = some (V i) ∧ w1.frozen? ⟨b, i, none⟩ = false :=
  ⟨(G.cell_far ⟨p, 1, none⟩ h.c.lt (fun e => h.c.vp i hi e.symm)).trans h.c.c1, (G.cell_far ⟨b, i, none⟩ h.c.blt (fun e => h.c.vb i hi e.symm)).trans (h.c.row i hi), (G.frozen_far ⟨b, i, none⟩ h.c.blt (fun e => h.c.vb i hi e.symm)).trans (h.c.fz i hi)⟩
set_option maxHeartbeats 1000000 in
theorem Touch_hit {w : World} {F : Nat → Prop} {p n ways : Nat} {f : Nat → List Int} (h : Ca w F p n ways f) (i : Nat) (hi : i < n) (t : Int) (h0 : 0 ≤ t) (h1 : t < 18446744073709551616) (hm : t ∈ f i) :
    Calls Try.prog 47 #[.pointer (some ⟨p, 0, none⟩), .int .i64 i, .int .u64 t] w fun e w' => e = .returned (.tuple #[.bool true, .int .i64 0]) ∧ Tch w F p n ways f i t w' := by
  obtain ⟨b, V, hP⟩ := h.parts
  have ho := hP.c.own i hi
  have hl := hP.c.len i hi
  have h16 := hP.c.w16
  have hn4 := hP.c.n4
  obtain ⟨g, cap, L, hv, hB, c1, c2, c3, c4⟩ := ho.shape.resolve_left (by rintro ⟨_, e⟩; rw [e] at hm; simp at hm)
  obtain ⟨k, hk⟩ : ∃ k, (f i).idxOf t = k := ⟨_, rfl⟩
  have hkl : k < (f i).length := by rw [← hk]; exact List.idxOf_lt_length_of_mem hm
  have hkt : (f i)[k]? = some t := by subst hk; rw [List.getElem?_eq_getElem (List.idxOf_lt_length_of_mem hm), List.getElem_idxOf]
  have hix : idx (f i) t = k := by unfold idx; rw [if_pos hm, hk]
  have HT : Hid (Calls _ _ _ _ _) := tags_ok hP.c i hi
  have HI : Hid (Calls _ _ _ _ _) := Index_any ho (by omega) t
  rw [hix] at HI
  have HR : Hid (Calls _ _ _ _ _) := rotate_ok (m := k + 1) hB (by omega) (by omega) (by omega) (by omega) c2 (by
    intro v hv
    have : L.take (k + 1) = (L.take (f i).length).take (k + 1) := by rw [List.take_take, Nat.min_eq_left (by omega)]
    rw [this, c4] at hv
    exact tv_one _ v (List.mem_of_mem_take hv)) t
  have HE : Hid (∀ w', w.grownBy w' (some g) → Blk w' g 22 (.int .u64 t :: (L.take (k + 1 - 1) ++ L.drop (k + 1))) → Tch w F p n ways f i t w') := by
    intro w' G hB'
    have et : tch ways t (f i) = t :: ((f i).take k ++ (f i).drop (k + 1)) := tch_found (hP.c.nod i hi) hkt hl
    have el : (tch ways t (f i)).length = (f i).length := by rw [et]; simp; omega
    refine hP.turn_in i hi (tch ways t (f i)) g (by rw [hv]; rfl) G ?_ (tch_len _ _ _) (tch_nodup _ _ (hP.c.nod i hi)) (tch_ok _ (hP.c.ok i hi) h0 h1)
    rw [hv, ← el]
    refine Own.of_blk hB' (by omega) c2 (by simp; omega) ?_
    rw [el, et]
    have e2 : (L.take k).length = k := by simp; omega
    rw [show (f i).length = k + 1 + ((f i).length - (k + 1)) by omega, Nat.add_sub_cancel, take_front e2]
    have e3 : tv (t :: ((f i).take k ++ (f i).drop (k + 1))) = .int .u64 t :: ((tv (f i)).take k ++ (tv (f i)).drop (k + 1)) := by simp [tv]
    rw [e3, ← c4, List.take_take, Nat.min_eq_left (by omega), List.drop_take]
  rw [hv] at HT HI
  clear ho hP h c4 c3 hB hv
  unfold maxLen at c2
  go_enter Try.func47, Try.ntmps47
  go_wp2_with fail
  refine HT.out.mono ?_
  rintro e w' ⟨rfl, rfl⟩
  go_wp2_with fail
  refine HI.out.mono ?_
  rintro e w' ⟨rfl, rfl⟩
  go_wp2_with fail
  refine HR.out.mono ?_
  rintro e w' ⟨rfl, G, hB'⟩
  have HX : Hid (Tch _ F p n ways f i t w') := HE.out w' G hB'
  clear HE G hB' HR HT HI
  go_wp2
  go_ret2
  exact ⟨rfl, HX.out⟩
set_option maxHeartbeats 1000000 in
theorem Touch_full {w : World} {F : Nat → Prop} {p n ways : Nat} {f : Nat → List Int} (h : Ca w F p n ways f) (i : Nat) (hi : i < n) (t : Int) (h0 : 0 ≤ t) (h1 : t < 18446744073709551616) (hm : t ∉ f i) (hf : (f i).length = ways) :
    Calls Try.prog 47 #[.pointer (some ⟨p, 0, none⟩), .int .i64 i, .int .u64 t] w fun e w' => e = .returned (.tuple #[.bool false, .int .i64 0]) ∧ Tch w F p n ways f i t w' := by
  obtain ⟨b, V, hP⟩ := h.parts
  have ho := hP.c.own i hi
  have hl := hP.c.len i hi
  have h16 := hP.c.w16
  have hw1 := hP.c.w1
  have hn4 := hP.c.n4
  have hc0 := hP.c.c0
  obtain ⟨g, cap, L, hv, hB, c1, c2, c3, c4⟩ := ho.shape.resolve_left (by rintro ⟨_, e⟩; rw [e] at hf; simp at hf; omega)
  have hix : idx (f i) t = -1 := by unfold idx; rw [if_neg hm]
  have HT : Hid (Calls _ _ _ _ _) := tags_ok hP.c i hi
  have HI : Hid (Calls _ _ _ _ _) := Index_any ho (by omega) t
  rw [hix] at HI
  have HR : Hid (Calls _ _ _ _ _) := rotate_ok (m := (f i).length) hB (by omega) (by omega) (by omega) (by omega) c2 (by
    intro v hv
    rw [c4] at hv
    exact tv_one _ v hv) t
  have HE : Hid (∀ w', w.grownBy w' (some g) → Blk w' g 22 (.int .u64 t :: (L.take ((f i).length - 1) ++ L.drop (f i).length)) → Tch w F p n ways f i t w') := by
    intro w' G hB'
    have et : tch ways t (f i) = t :: ((f i).take (ways - 1)) := tch_full hm hw1
    have el : (tch ways t (f i)).length = (f i).length := by rw [et]; simp; omega
    refine hP.turn_in i hi (tch ways t (f i)) g (by rw [hv]; rfl) G ?_ (tch_len _ _ _) (tch_nodup _ _ (hP.c.nod i hi)) (tch_ok _ (hP.c.ok i hi) h0 h1)
    rw [hv, ← el]
    refine Own.of_blk hB' (by omega) c2 (by simp; omega) ?_
    rw [el, et]
    have e2 : (L.take ((f i).length - 1)).length = (f i).length - 1 := by simp; omega
    have e4 := take_front (v := .int .u64 t) (B := L.drop (f i).length) (m := 0) e2
    rw [show (f i).length - 1 + 1 + 0 = (f i).length by omega] at e4
    rw [e4]
    have e3 : tv (t :: ((f i).take (ways - 1))) = .int .u64 t :: ((tv (f i)).take (ways - 1)) := by simp [tv]
    rw [e3, ← c4, List.take_take, Nat.min_eq_left (by omega), ← hf]
    simp
  rw [hv] at HT HI
  clear ho hP h c4 c3 hB hv
  rw [hf] at HT HI HR HE
  unfold maxLen at c2
  go_enter Try.func47, Try.ntmps47
  go_wp2_with fail
  refine HT.out.mono ?_
  rintro e w' ⟨rfl, rfl⟩
  go_wp2_with fail
  refine HI.out.mono ?_
  rintro e w' ⟨rfl, rfl⟩
  go_wp2_with fail
  refine HR.out.mono ?_
  rintro e w' ⟨rfl, G, hB'⟩
  have HX : Hid (Tch _ F p n ways f i t w') := HE.out w' G hB'
  clear HE G hB' HR HT HI
  go_wp2
  go_ret2
  exact ⟨rfl, HX.out⟩
set_option maxHeartbeats 1000000 in
theorem Touch_new {w : World} {F : Nat → Prop} {p n ways : Nat} {f : Nat → List Int} (h : Ca w F p n ways f) (i : Nat) (hi : i < n) (t : Int) (h0 : 0 ≤ t) (h1 : t < 18446744073709551616) (hm : t ∉ f i) (hf : (f i).length < ways) :
    Calls Try.prog 47 #[.pointer (some ⟨p, 0, none⟩), .int .i64 i, .int .u64 t] w fun e w' => e = .returned (.tuple #[.bool false, .int .i64 0]) ∧ Tch w F p n ways f i t w' := by
  obtain ⟨i0, hi0, hz0, hz1, hz2⟩ := info_parts Try.infoU
  obtain ⟨b, V, hP⟩ := h.parts
  have ho := hP.c.own i hi
  have h16 := hP.c.w16
  have hn4 := hP.c.n4
  have hc0 := hP.c.c0
  have hplt := hP.c.lt
  have hblt := hP.c.blt
  obtain ⟨a0, cap0, hv⟩ := ho.len
  have hix : idx (f i) t = -1 := by unfold idx; rw [if_neg hm]
  have HT : Hid (Calls _ _ _ _ _) := tags_ok hP.c i hi
  have HI : Hid (Calls _ _ _ _ _) := Index_any ho (by omega) t
  rw [hix] at HI
  have HO : Hid (w.ownsRow 0 22 1 (V i) (f i).length (tv (f i))) := ho
  have HP : Hid (Pt w F p b n ways V f) := hP
  clear ho hP h hix
  have HV : Hid (V i = .slice a0 (f i).length cap0) := hv
  rw [hv] at HT HI HO
  clear hv
  obtain ⟨m, hmm⟩ : ∃ m, (f i).length = m := ⟨_, rfl⟩
  have HM : Hid ((f i).length = m) := hmm
  rw [hmm] at HT HI HO HV hf
  clear hmm
  go_enter Try.func47, Try.ntmps47
  go_wp2_with fail
  refine HT.out.mono ?_
  rintro e w' ⟨rfl, rfl⟩
  go_wp2_with fail
  refine HI.out.mono ?_
  rintro e w' ⟨rfl, rfl⟩
  clear HT HI
  go_wp2_with (at_builtin; refine wpList_append_lies _ rfl (.tmp 38) (.tmp 40) 29 rfl 0 22 i0 _ 1 8 Try.underlying29 hi0 hz0 hz1 hz2 rfl (by decide) (.slice a0 m cap0) m (tv (f i)) rfl (World.ownsRow.alloc HO.out _) ⟨w'.heap.size, 0, none⟩ 1 1 [.int .u64 t] rfl rfl (cell_one_new _ _ _) (by intro u hu; simp at hu; subst hu; rfl) (by omega) (by unfold maxLen; omega) (by omega) (Nat.zero_le _) (w'.heap.size + 1) (by simp) ?_; intro g1 k1 w1 o1 gr1 at1 lt1; have G1 : Hid (w'.grownBy w1 (V i).ownBlock) := (by rw [HV.out]; exact (World.grownBy_alloc _ _ _).trans gr1); have d1 := Pt.far HP.out hi G1.out; obtain ⟨d1, d2, d3⟩ := d1; rw [HV.out] at d2; clear gr1)
  have HO1 : Hid (w1.ownsRow 0 22 1 (.slice (some ⟨g1, 0, none⟩) (m + 1) k1) (m + 1) (tv (f i) ++ [.int .u64 t])) := o1
  have A1 : Hid ((V i).ownBlock = some g1 ∨ w'.heap.size ≤ g1) := by
    rw [HV.out]
    rcases at1 with q | q
    · exact Or.inl q
    · exact Or.inr (by omega)
  clear o1 at1 d1 d2 d3 hc0
  have hbg : b ≠ g1 := by
    intro e
    rcases A1.out with q | q
    · exact HP.out.c.vb i hi (by rw [q, e])
    · omega
  obtain ⟨L, hB, r1, r2, r3, r4⟩ := owns_blk HO1.out
  have hB2 : Blk (w1.setCell ⟨b, i, none⟩ (.slice (some ⟨g1, 0, none⟩) (m + 1) k1)) g1 22 L := hB.kept (grown_setCell' _ _ _ _) (some_ne hbg.symm)
  have HR : Hid (Calls _ _ _ _ _) := rotate_ok (m := m + 1) hB2 (by omega) (by omega) (by omega) r1 r2 (by
    intro v hv
    rw [r4] at hv
    rcases List.mem_append.1 hv with q | q
    · exact tv_one _ v q
    · simp at q; subst q; rfl) t
  refine HR.out.mono ?_
  rintro e w2 ⟨rfl, G3, hB'⟩
  have HX : Hid (Tch w' F p n ways f i t w2) := by
    have et : tch ways t (f i) = t :: f i := tch_new hm (by rw [HM.out]; exact hf)
    have el : (tch ways t (f i)).length = m + 1 := by rw [et]; simp [HM.out]
    refine HP.out.turn_new i hi _ g1 (m + 1) k1 G1.out A1.out G3 ?_ (tch_len _ _ _) (tch_nodup _ _ (HP.out.c.nod i hi)) (tch_ok _ (HP.out.c.ok i hi) h0 h1)
    rw [← el]
    refine Own.of_blk hB' (by omega) r2 (by simp; omega) ?_
    rw [el, et]
    have e2 : (L.take m).length = m := by simp; omega
    have e4 := take_front (v := .int .u64 t) (B := L.drop (m + 1)) (m := 0) e2
    rw [Nat.add_sub_cancel, e4]
    have e5 : L.take m = tv (f i) := by
      have : L.take m = (L.take (m + 1)).take m := by rw [List.take_take, Nat.min_eq_left (by omega)]
      rw [this, r4, List.take_append_of_le_length (by rw [tv_len, HM.out]; exact Nat.le_refl _), List.take_of_length_le (by rw [tv_len, HM.out]; exact Nat.le_refl _)]
    rw [e5]
    simp [tv]
  clear HR hB2 hB hB' G3 G1 HO1 HO HP
  go_wp2
  go_ret2
  exact ⟨rfl, HX.out⟩
theorem Touch_ok {w : World} {F : Nat → Prop} {p n ways : Nat} {f : Nat → List Int} (h : Ca w F p n ways f) (i : Nat) (hi : i < n) (t : Int) (h0 : 0 ≤ t) (h1 : t < 18446744073709551616) :
    Calls Try.prog 47 #[.pointer (some ⟨p, 0, none⟩), .int .i64 i, .int .u64 t] w fun e w' => e = .returned (.tuple #[.bool (decide (t ∈ f i)), .int .i64 0]) ∧ Tch w F p n ways f i t w' := by
  by_cases hm : t ∈ f i
  · rw [decide_eq_true hm]
    exact Touch_hit h i hi t h0 h1 hm
  · rw [decide_eq_false hm]
    obtain ⟨b, V, hP⟩ := h.parts
    have hl := hP.c.len i hi
    by_cases hf : (f i).length = ways
    · exact Touch_full h i hi t h0 h1 hm hf
    · exact Touch_new h i hi t h0 h1 hm (by omega)
end Go.Proofs.Ytokaohlgncmoaaa.C
namespace Go.Proofs.Ytokaohlgncmoaaa.C
open Go.ChangeShapes Go.WideShapes Go.ChangeAt Go.RowKit
set_option linter.unusedVariables false
set_option maxRecDepth 8192

def cnt (f : Nat → List Int) : Nat → Nat
  | 0 => 0
  | n + 1 => cnt f n + (f n).length
theorem cnt_le {f : Nat → List Int} : ∀ {n : Nat}, (∀ i, i < n → (f i).length ≤ 16) → cnt f n ≤ n * 16
  | 0, _ => Nat.le_refl _
  | n + 1, h => by
    have h1 := cnt_le (n := n) (fun i hi => h i (by omega))
    have h2 := h n (by omega)
    simp only [cnt]
    omega
theorem cnt_mono (f : Nat → List Int) {k n : Nat} (h : k ≤ n) : cnt f k ≤ cnt f n := by
  induction n with
  | zero => obtain rfl : k = 0 := by omega
            exact Nat.le_refl _
  | succ n ih =>
    by_cases e : k = n + 1
    · rw [e]; exact Nat.le_refl _
    · have := ih (by omega)
      simp only [cnt]
      omega
theorem Cch.cnt {w : World} {p b n ways : Nat} {V : Nat → Value} {f : Nat → List Int} (h : Cch w p b n ways V f) (k : Nat) (hk : k ≤ n) : cnt f k ≤ 65536 := by
  have h1 := cnt_mono f hk
  have h2 := cnt_le (f := f) (n := n) (fun i hi => Nat.le_trans (h.len i hi) h.w16)
  have h3 := h.n4
  omega
theorem Count_c {w : World} {p b n ways : Nat} {V : Nat → Value} {f : Nat → List Int} (hM : Cch w p b n ways V f) :
    Calls Try.prog 51 #[.pointer (some ⟨p, 0, none⟩)] w fun e w' => e = .returned (.int .i64 (cnt f n)) ∧ w' = w := by
  have hc := hM.c1
  have h4 := hM.n4
  have HM : Hid (Cch w p b n ways V f) := hM
  clear hM
  go_enter Try.func51, Try.ntmps51
  go_wp2_with fail
  refine (made_any HM.out).mono ?_
  rintro e w' ⟨rfl, rfl⟩
  go_wp2_with fail
  go_loop [3, 14] (fun s i => ∃ k : Nat, k ≤ n ∧ i = .int .i64 k ∧ s = .int .i64 (cnt f k)) (fun _ i => n - (intOf i).toNat)
  case atStart => exact ⟨0, by omega, rfl, rfl⟩
  case round =>
    obtain ⟨k, hk, rfl, rfl⟩ := hrel
    by_cases hlt : k < n
    · have hr := HM.out.row k hlt
      obtain ⟨a, cap, hv⟩ := (HM.out.own k hlt).len
      rw [hv] at hr
      have b1 := HM.out.cnt (k + 1) (by omega)
      have HE : Hid (Proofs.Ytokaohlgncmoaaa.C.cnt f (k + 1) = Proofs.Ytokaohlgncmoaaa.C.cnt f k + (f k).length) := rfl
      rw [HE.out] at b1
      generalize (f k).length = m at *
      generalize Proofs.Ytokaohlgncmoaaa.C.cnt f k = c at *
      go_wp2
      go_round
      case rel => exact ⟨k + 1, by omega, by go_num, by rw [HE.out]; go_num⟩
      case measure => simp [intOf]; omega
    · obtain rfl : k = n := by omega
      go_wp2
      go_ret
      exact ⟨rfl, rfl⟩
theorem Try.zeroS : (Try.prog.info? 29).map (fun i => (i.zero, i.size)) = some (some (.slice none 0 0), 1) := by kernel_rfl
def Flu (w : World) (F : Nat → Prop) (p n ways : Nat) (w' : World) : Prop := ∃ F', Ca w' F' p n ways (fun _ => []) ∧ Kp F F' w w'
theorem Pt.cleared {w w' : World} {F : Nat → Prop} {p b n ways : Nat} {V : Nat → Value} {f : Nat → List Int} (h : Pt w F p b n ways V f) (e : w' = w.setCells b 0 (List.replicate n (.slice none 0 0))) : Flu w F p n ways w' := by
  have G : w.grownBy w' (some b) := by rw [e]; exact grown_setCells _ _ _ _
  have ep : w'.heap[p]? = w.heap[p]? := G.block p h.c.lt (some_ne h.c.ne)
  refine ⟨F, ⟨fun k hk => Nat.lt_of_lt_of_le (h.lt k hk) G.size, b, fun _ => .slice none 0 0, ?_, h.fp, h.fb, fun i g _ hg => by cases hg⟩, Kp.of_grown G (fun g hg => by cases hg; exact h.fb) (fun k hk => Or.inl hk)⟩
  exact ⟨Nat.lt_of_lt_of_le h.c.lt G.size, (World.cell?_of_block (w := w) (a := ⟨p, 0, none⟩) ep).trans h.c.c0, (World.cell?_of_block (w := w) (a := ⟨p, 1, none⟩) ep).trans h.c.c1, (World.frozen?_of_block (w := w) (a := ⟨p, 1, none⟩) ep).trans h.c.z1, Nat.lt_of_lt_of_le h.c.blt G.size,
    fun i hi => by
      have := World.cell?_setCells_in b (List.replicate n (Value.slice none 0 0)) 0 w (fun j hj => by rw [List.length_replicate] at hj; rw [Nat.zero_add, h.c.row j hj]; rfl) i (by simpa using hi)
      rw [Nat.zero_add] at this
      rw [e, this]
      simp,
    fun i hi => by rw [e, World.frozen?_setCells]; exact h.c.fz i hi,
    fun i _ => Own.nil _, h.c.ne, fun i _ q => (by cases q), fun i _ q => (by cases q), fun i j g _ _ _ q => (by cases q), fun i _ => (by simp), fun i _ => (by simp), fun i _ t ht => (by simp at ht), h.c.w1, h.c.w16, h.c.n1, h.c.n4⟩
theorem Flush_ok {w : World} {F : Nat → Prop} {p n ways : Nat} {f : Nat → List Int} (h : Ca w F p n ways f) :
    Calls Try.prog 27 #[.pointer (some ⟨p, 0, none⟩)] w fun e w' => e = .returned (.tuple #[.int .i64 (cnt f n), .int .i64 0]) ∧ Flu w F p n ways w' := by
  obtain ⟨b, V, hP⟩ := h.parts
  have hc := hP.c.c1
  have hcl : ∀ ty, (Builtin.clear_ #[103] ty #[.slice (some ⟨b, 0, none⟩) n n]).run Try.prog w = .ok (.tuple #[]) (w.setCells b 0 (List.replicate n (.slice none 0 0))) := fun ty =>
    Lib.run_clear_slice w 103 29 ty (.slice none 0 0) Try.underlying103 (zero_of_info Try.zeroS).1 rfl rfl b 0 n n (by have := hP.c.n1; omega) (fun j hj => by rw [Nat.zero_add, hP.c.row j hj]; rfl) (fun j hj => by rw [Nat.zero_add]; exact hP.c.fz j hj)
  have HF : Hid (Flu w F p n ways (w.setCells b 0 (List.replicate n (.slice none 0 0)))) := hP.cleared rfl
  generalize w.setCells b 0 (List.replicate n (.slice none 0 0)) = wz at *
  have HM : Hid (Calls _ _ _ _ _) := made_any hP.c
  have HC : Hid (Calls _ _ _ _ _) := Count_c hP.c
  generalize Proofs.Ytokaohlgncmoaaa.C.cnt f n = c at *
  clear hP h
  go_enter Try.func27, Try.ntmps27
  go_wp2_with fail
  refine HM.out.mono ?_
  rintro e w' ⟨rfl, rfl⟩
  go_wp2_with fail
  refine HC.out.mono ?_
  rintro e w' ⟨rfl, rfl⟩
  go_wp2
  go_ret2
  exact ⟨rfl, HF.out⟩
end Go.Proofs.Ytokaohlgncmoaaa.C
