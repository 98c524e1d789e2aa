/- What Counts, Whole and Owned of package pool give back, by the uses of the frames alone; no condition but those that each theorem names. -/
import Derived.Test.YtdempgjhjcjklaaGreatVPd
import Derived.Test.YtdempgjhjcjklaaGreatVUv
namespace Go.Proofs.YtdempgjhjcjklaaGreat.P
open B Go.ChangeShapes Go.WideShapes Go.ChangeAt Go.RowKit Go.Maps Go.Sort Go.Shelf
set_option linter.unusedVariables false
set_option maxRecDepth 8192

theorem Counts_p {w : World} {F : Nat → Prop} {p : Nat} {P : Par} {us : Us} (h : Po w F p P us) : Calls Tryz.prog 39 #[.pointer (some ⟨p, 0, none⟩)] w fun e w' => e = .returned (.agg #[.int .i64 (cN P us 0 : Nat), .int .i64 (cN P us 1 : Nat), .int .i64 (cN P us 2 : Nat), .int .i64 (cN P us 3 : Nat), .int .i64 (cN P us 4 : Nat), .int .i64 (cN P us 5 : Nat), .int .i64 (cN P us 6 : Nat)]) ∧ Below w.heap.size w w' := by
  obtain ⟨ga, b, cap, G, bp, L, tk, cn, g1, g2, g3⟩ := h.me
  have hb : ∀ o : Obj, Below w.heap.size w (w.alloc o) := fun o => (Below.refl _ w).alloc (Nat.le_refl _) o
  have C1 : Hid (∀ o : Obj, Calls Tryz.prog 44 #[.pointer (some ⟨p, 0, none⟩)] (w.alloc o) fun e w' => e = .returned (.bool true) ∧ w' = w.alloc o) := fun o => made_p (g1.below (hb o))
  have c0 := g1.cc 0 (by omega)
  have c1 := g1.cc 1 (by omega)
  have c2 := g1.cc 2 (by omega)
  have c3 := g1.cc 3 (by omega)
  have c4 := g1.cc 4 (by omega)
  have c5 := g1.cc 5 (by omega)
  have c6 := g1.cc 6 (by omega)
  rw [g2.cn] at c0 c1 c2 c3 c4 c5 c6
  have hlt := g1.lt
  have HB : Hid (∀ o : Obj, Below w.heap.size w (w.alloc o)) := hb
  clear h g1 g2 g3 hb
  generalize cN P us 0 = n0 at *
  generalize cN P us 1 = n1 at *
  generalize cN P us 2 = n2 at *
  generalize cN P us 3 = n3 at *
  generalize cN P us 4 = n4 at *
  generalize cN P us 5 = n5 at *
  generalize cN P us 6 = n6 at *
  go_enter Tryz.func39, Tryz.ntmps39
  go_wp2_with (go_at_call 44; refine (C1.out _).mono ?_; rintro e w' ⟨rfl, rfl⟩)
  refine bodyPost_ret (v := .agg #[.int .i64 n0, .int .i64 n1, .int .i64 n2, .int .i64 n3, .int .i64 n4, .int .i64 n5, .int .i64 n6]) (by simp [results, Tryz.results39, go_sem]) rfl ⟨rfl, ?_⟩
  exact HB.out _
theorem us_succ (m : Us) (n : Nat) : B.us (n + 1) m = B.us n m ++ (if (m n).isSome then [n] else []) := by
  unfold B.us
  rw [List.range_succ, List.filter_append]
  congr 1
  cases h : (m n).isSome <;> simp [h]
theorem us_count {m : Us} (h : ∀ g u, m g = some u → 1 ≤ u ∧ u ≤ 6) : ∀ n, (B.us n m).length = cU m 1 n + cU m 2 n + cU m 3 n + cU m 4 n + cU m 5 n + cU m 6 n
  | 0 => rfl
  | n + 1 => by
    have ih := us_count h n
    rw [us_succ, List.length_append, ih]
    simp only [cU]
    cases e : m n with
    | none => simp
    | some u =>
      have := h n u e
      rcases (show u = 1 ∨ u = 2 ∨ u = 3 ∨ u = 4 ∨ u = 5 ∨ u = 6 by omega) with rfl | rfl | rfl | rfl | rfl | rfl <;> simp <;> omega
theorem Whole_p {w : World} {F : Nat → Prop} {p : Nat} {P : Par} {us : Us} (h : Po w F p P us) : Calls Tryz.prog 22 #[.pointer (some ⟨p, 0, none⟩)] w fun e w' => e = .returned (.bool (decide (tU us = cU us 1 4096))) ∧ Below w.heap.size w w' := by
  obtain ⟨ga, b, cap, G, bp, L, tk, cn, g1, g2, g3⟩ := h.me
  have C1 : Hid (∀ n, Calls Tryz.prog 44 #[.pointer (some ⟨p, 0, none⟩)] (w.drewN n) fun e w' => e = .returned (.bool true) ∧ w' = w.drewN n) := fun n => made_p (g1.below (below_of (grown_drewN w n none) _ (Nat.le_refl _) (by simp)))
  have hlen : ∀ n ty, (Builtin.len_ #[67] ty #[.map (some b)]).run Tryz.prog (w.drewN n) = .ok (.int .i64 (tU us : Nat)) (w.drewN n) := fun n ty => by
    have := (g1.below (below_of (grown_drewN w n none) _ (Nat.le_refl _) (by simp))).mp.len ty
    rw [show (B.usI 4096 us).length = tU us by unfold B.usI; rw [List.length_map, us_count (fun g u hg => ⟨(h.va.us1 g u hg).1, (h.va.us1 g u hg).2.1⟩)]; rfl] at this
    exact this
  have c1 := g1.cc 1 (by omega)
  have e1 : cn 1 = cU us 1 4096 := by rw [g2.cn 1]; exact if_neg (by omega)
  rw [e1] at c1
  have hcm := g1.cm
  clear h g1 g2 g3 e1
  generalize cU us 1 4096 = x at *
  generalize tU us = y at *
  go_enter Tryz.func22, Tryz.ntmps22
  go_wp2
  go_quiet ((go_at_call 44; exact Calls.quiet_of_same (C1.out _)))
  go_wp2
  go_ret
  refine ⟨ret_bool ?_, below_of (grown_drewN w _ none) _ (Nat.le_refl _) (by simp)⟩
  rw [Bool.eq_iff_iff]
  simp
  omega
theorem Mu.look_plain {w : World} {b N : Nat} {m : Nat → Option Nat} (h : Mu w b N m) (hN : N ≤ 4096) {j u : Nat} (e : m j = some u) :
    (Instr.lookup 67 (.map (some b)) (.int .i64 j) false).run Tryz.prog w = .ok (.int .u8 u) w := by
  obtain ⟨D, ho, v⟩ := h
  have hj := (v.lt j u e).1
  obtain ⟨x, ps, hr, hx⟩ := ho.lookup keyed Tryz.underlying67 (z := .int .u8 0) ((zero_of_info Tryz.zeroU).1 w) (zd := .held (.int .u8 0)) (zp := []) rfl (key_at j (by omega))
  rw [v.at' j u e] at hx
  simp [Rv, uv] at hx
  rw [hr, hx.1]
theorem sortsA (m : Nat) : AnyZI.SortsIn Tryz.prog sortedA_ren Fence.wide m :=
  ⟨fun blk off cap ss W hH hblk hsz => callsIn_wide.2 (AnyM.slices_Sort_int sortA blk off cap ss W hH hblk hsz),
   fun p cap W => callsIn_wide.2 (AnyM.slices_Sort_int_none sortA p cap W)⟩
theorem keys_call (mb : Option Nat) (W : World) : Calls Tryz.prog 78 #[.map mb] W fun e w' => e = .returned (.func (.func 100) #[] #[.pointer (some ⟨W.heap.size, 0, none⟩)]) ∧ w' = W.alloc (.cells #[.map mb] 67) :=
  (callsIn_wide (n := 5)).1 (AnyZI.keys_in keysA Fence.wide 5 trivial rfl mb W)
theorem sorted_call (b nn : Nat) (D0 : DataW Value) (w : World) (hown : w.ownsMap Tryz.prog 3 Rv b nn D0) (hmax : Maps.size D0 ≤ maxLen) (hbytes : Maps.size D0 * 8 ≤ 140737488355328) :
    Calls Tryz.prog 77 #[.func (.func 100) #[] #[.pointer (some ⟨w.heap.size, 0, none⟩)]] (w.alloc (.cells #[.map (some b)] 67)) fun e w' => ∃ (v : Value) (ss : List Int), e = .returned v ∧ ss.Perm (intKeys D0) ∧
      w'.ownsRow w.heap.size 3 1 v ss.length ((ss.mergeSort (fun x y => decide (x ≤ y))).map encZ) ∧ (v = .slice none 0 0 ↔ ss = []) ∧ Below w.heap.size w w' := by
  have hbl := hown.lt
  have hseq : SeqGives Fence.wide 2 Tryz.prog 100 #[.pointer (some ⟨w.heap.size, 0, none⟩)] encZ (fun ss => ss.Perm (intKeys D0)) (Maps.size D0) (w.alloc (.cells #[.map (some b)] 67)) :=
    AnyZI.keys_gives (ρ := keysA_ren) { keysA with } Fence.wide _ trivial rfl (by omega) w.heap.size b nn D0 _ (by simp) (by simp) (by
      obtain ⟨es, clock, hb, Ft, hs, hD⟩ := hown
      exact ⟨es, clock, (Below.heap_alloc _ _ b hbl).trans hb, Ft, hs, hD⟩)
  have cS := AnyZI.sorted_in sortedA Fence.wide 5 trivial trivial trivial trivial rfl (by omega) (sortsA _) (enters_of Tryz.func99 (by kernel_rfl) rfl) 100 #[.pointer (some ⟨w.heap.size, 0, none⟩)] trivial (enters_of Tryz.func100 (by kernel_rfl) rfl) _ _ hmax hbytes _ hseq
  change CallsIn _ _ Tryz.prog 77 _ _ _ at cS
  refine (callsIn_wide.1 cS).mono ?_
  rintro e w' ⟨v, ss, rfl, hS, hrow, hnil, hb⟩
  exact ⟨v, ss, rfl, hS, ownsRow_base_a hrow (by simp), hnil, ((Below.refl _ w).alloc (Nat.le_refl _) _).trans (hb.mono (by simp))⟩
theorem sorted_mu {ss : List Int} {D : DataW Value} {w : World} {b n N : Nat} {m : Nat → Option Nat} (ho : w.ownsMap Tryz.prog 3 Rv b n D) (v : Vu D N m) (hp : ss.Perm (intKeys D)) : ss.mergeSort (fun x y => decide (x ≤ y)) = usI N m := by
  rw [show (fun x y : Int => decide (x ≤ y)) = leI from rfl, mergeSort_of_perm_i (hp.trans (keys_mu ho v).symm)]
  apply List.mergeSort_of_pairwise
  refine (usI_lt N m).imp ?_
  intro a b h
  simp [leI]
  omega
theorem Tryz.infoO : (Tryz.prog.info? 114).map (fun i => (i.zero, i.size, i.bytes)) = some (some (.agg #[.int .i64 0, .int .u8 0]), 2, 16) := by kernel_rfl
def enO (us : Us) (l : List Nat) : List Value := l.flatMap fun g => [.int .i64 (g : Nat), .int .u8 ((us g).getD 0 : Nat)]
theorem enO_snoc (us : Us) (l : List Nat) (g : Nat) : enO us (l ++ [g]) = enO us l ++ [.int .i64 (g : Nat), .int .u8 ((us g).getD 0 : Nat)] := by simp [enO]
theorem enO_get (us : Us) : ∀ (l : List Nat) (i g : Nat), l[i]? = some g → (enO us l)[i * 2]? = some (.int .i64 (g : Nat)) ∧ (enO us l)[i * 2 + 1]? = some (.int .u8 ((us g).getD 0 : Nat))
  | [], i, g, h => by simp at h
  | a :: l, 0, g, h => by
    simp at h
    subst h
    exact ⟨rfl, rfl⟩
  | a :: l, i + 1, g, h => by
    have := enO_get us l i g (by simpa using h)
    have e : enO us (a :: l) = .int .i64 (a : Nat) :: .int .u8 ((us a).getD 0 : Nat) :: enO us l := rfl
    rw [e, show (i + 1) * 2 = i * 2 + 1 + 1 by omega]
    simpa using this
def Os (w : World) (base : Nat) (v : Value) (us : Us) (l : List Nat) : Prop := w.ownsRow base 114 2 v l.length (enO us l)
theorem Os.nil (w : World) (base : Nat) (us : Us) : Os w base (.slice none 0 0) us [] := World.ownsRow_nil _ _ _ _
theorem Os.shape {w : World} {base : Nat} {v : Value} {us : Us} {l : List Nat} (h : Os w base v us l) : (v = .slice none 0 0 ∧ l = []) ∨ ∃ g cap C, v = .slice (some ⟨g, 0, none⟩) l.length cap ∧ base ≤ g ∧ Blk w g 114 C ∧ C.length = cap * 2 ∧ l.length ≤ cap ∧ C.take (l.length * 2) = enO us l := by
  rcases h.2 with ⟨h1, h2⟩ | ⟨g, cap, cur, h1, h2, h3, h4, h5, h6, h7⟩
  · exact Or.inl ⟨h1, List.eq_nil_of_length_eq_zero h2⟩
  · refine Or.inr ⟨g, cap, cur.toList, h1, h2, ?_, by simpa using h6, h4, by simpa using h7⟩
    unfold Blk
    simpa using h3
theorem Os.lt {w : World} {base : Nat} {v : Value} {us : Us} {l : List Nat} (h : Os w base v us l) : ∀ g, v.ownBlock = some g → base ≤ g ∧ g < w.heap.size := by
  intro g hg
  rcases h.shape with ⟨rfl, _⟩ | ⟨g', cap, C, rfl, h1, h2, _⟩
  · cases hg
  · cases hg
    exact ⟨h1, h2.lt⟩
theorem Os.of_eq {w w' : World} {base : Nat} {v : Value} {us : Us} {l : List Nat} (h : Os w base v us l) (e : ∀ g, v.ownBlock = some g → w'.heap[g]? = w.heap[g]?) : Os w' base v us l := by
  refine ⟨h.1, ?_⟩
  rcases h.2 with h1 | ⟨g, cap, cur, h1, h2, h3, h4⟩
  · exact Or.inl h1
  · subst h1
    exact Or.inr ⟨g, cap, cur, rfl, h2, (e g rfl).trans h3, h4⟩
theorem Os.below {w w' : World} {base : Nat} {v : Value} {us : Us} {l : List Nat} (h : Os w base v us l) (k : Below w.heap.size w w') : Os w' base v us l := h.of_eq (fun g hg => k.block g (h.lt g hg).2)
theorem Os.cell {w : World} {base : Nat} {v : Value} {us : Us} {l : List Nat} (h : Os w base v us l) : ∃ a c, v = .slice a l.length c ∧ ∀ W, Below w.heap.size w W → ∀ i x, l[i]? = some x → ∃ g, a = some ⟨g, 0, none⟩ ∧ base ≤ g ∧ W.cell? ⟨g, i * 2, none⟩ = some (.int .i64 (x : Nat)) ∧ W.cell? ⟨g, i * 2 + 1, none⟩ = some (.int .u8 ((us x).getD 0 : Nat)) := by
  rcases h.shape with ⟨rfl, rfl⟩ | ⟨g, cap, C, rfl, h1, h2, h3, h4, h5⟩
  · exact ⟨_, _, rfl, fun W hW i x hi => by simp at hi⟩
  · refine ⟨_, _, rfl, fun W hW i x hi => ⟨g, rfl, h1, ?_⟩⟩
    obtain ⟨hlt, _⟩ := List.getElem?_eq_some_iff.1 hi
    have e := enO_get us l i x hi
    rw [← h5] at e
    rw [List.getElem?_take_of_lt (by omega), List.getElem?_take_of_lt (by omega)] at e
    rw [hW.cell (p := ⟨g, i * 2, none⟩) h2.lt, hW.cell (p := ⟨g, i * 2 + 1, none⟩) h2.lt, h2.cell, h2.cell]
    exact e
theorem cell_two_new (w : World) (x y : Value) (t : TypeId) : ∀ j u, [x, y][j]? = some u → (w.alloc (.cells #[x, y] t)).cell? ((⟨w.heap.size, 0, none⟩ : Addr).add j) = some u := by
  intro j u hu
  rw [Go.WideShapes.add_plain, cell_of_row _ _ (0 + j) _ t (0, 0) (heap_alloc_last w _), Nat.zero_add]
  simpa using hu
theorem us_get {N : Nat} {m : Us} {i g : Nat} (h : (B.us N m)[i]? = some g) : ∃ u, m g = some u := by
  have := List.mem_of_getElem? h
  unfold B.us at this
  rw [List.mem_filter] at this
  exact Option.isSome_iff_exists.1 this.2
set_option maxHeartbeats 2000000 in
theorem Owned_p {w : World} {F : Nat → Prop} {p : Nat} {P : Par} {us : Us} (h : Po w F p P us) :
    Calls Tryz.prog 42 #[.pointer (some ⟨p, 0, none⟩)] w fun e w' => ∃ v, e = .returned v ∧ Os w' w.heap.size v us (B.us 4096 us) ∧ Below w.heap.size w w' := by
  obtain ⟨ga, b, cap, G, bp, L, tk, cn, g1, g2, g3⟩ := h.me
  have C1 : Hid (Calls _ _ _ _ _) := made_p g1
  have hcm := g1.cm
  have HP1 : Hid (∀ W, Below w.heap.size w W → Pp W P.k p ga b cap G bp P L tk us cn) := fun W hW => g1.below hW
  obtain ⟨D, ho, vw⟩ := g1.mp
  have hsz : Maps.size D ≤ 4096 := ho.size_le
  have CS : Hid (Calls _ _ _ _ _) := sorted_call b 4096 D w ho (by unfold maxLen; omega) (by omega)
  have HE : Hid (∀ ss : List Int, ss.Perm (intKeys D) → ss.mergeSort (fun x y => decide (x ≤ y)) = usI 4096 us ∧ ss.length = (usI 4096 us).length) := fun ss hp => ⟨sorted_mu ho vw hp, (hp.trans (keys_mu ho vw).symm).length_eq⟩
  have HLn : Hid ((B.us 4096 us).length ≤ 4096) := by have := us_len 4096 us; unfold usI at this; rwa [List.length_map] at this
  obtain ⟨i0, hi0, hz0, hz1, hz2⟩ := info_parts Tryz.infoO
  clear h g1 g2 g3 ho vw
  go_enter Tryz.func42, Tryz.ntmps42
  go_wp2_with (go_at_call 44; refine C1.out.mono ?_; rintro e w' ⟨rfl, h⟩; obtain rfl := h.symm)
  refine (keys_call _ _).mono ?_
  rintro e w2 ⟨rfl, rfl⟩
  go_wp2_with fail
  refine CS.out.mono ?_
  rintro e w3 ⟨v, ss, rfl, hp, hrow, hnil, hb⟩
  obtain ⟨e1, e2⟩ := HE.out ss hp
  rw [e1, e2] at hrow
  have HI3 : Is w3 w.heap.size v (usI 4096 us) := hrow
  have HB3 : Hid (Below w.heap.size w w3) := hb
  rcases HI3.own.shape with ⟨rfl, hnl⟩ | ⟨gk, ck, Lk, rfl, hbk, k1, k2, k3, k4⟩
  · have hnl2 : B.us 4096 us = [] := by unfold usI at hnl; simpa using hnl
    have HN : Hid (B.us 4096 us = []) := hnl2
    clear hrow hb hnil HI3 hnl hnl2 HE CS
    go_wp2
    go_loopw [3, 16] (fun v z wr => v = .slice none 0 0 ∧ z = .int .i64 0 ∧ wr = w3) (fun _ _ _ => 0)
    case atStart => exact ⟨rfl, rfl, rfl⟩
    case round =>
      obtain ⟨rfl, rfl, hw⟩ := hrel
      obtain rfl := hw
      go_wp2
      go_ret
      refine ⟨_, rfl, ?_, HB3.out⟩
      rw [HN.out]
      exact Os.nil _ _ _
  · obtain ⟨n, hn⟩ : ∃ n, (B.us 4096 us).length = n := ⟨_, rfl⟩
    have hun : (usI 4096 us).length = n := by unfold usI; rw [List.length_map]; exact hn
    rw [hun] at k1 k4 ⊢
    have HN : Hid ((B.us 4096 us).length = n) := hn
    have hn4 : n ≤ 4096 := by rw [← hn]; exact HLn.out
    have HC : Hid (∀ W, Below w3.heap.size w3 W → ∀ i x, (B.us 4096 us)[i]? = some x → W.cell? ⟨gk, i, none⟩ = some (.int .i64 (x : Nat))) := fun W hW i x hx => by
      obtain ⟨hlt, _⟩ := List.getElem?_eq_some_iff.1 hx
      rw [hW.cell (p := ⟨gk, i, none⟩) hbk.lt, hbk.cell i, ← List.getElem?_take_of_lt (show i < n by omega), k4, tv_get]
      unfold usI
      rw [List.getElem?_map, hx]
      rfl
    clear hrow hb hnil HI3 HE CS hbk k1 k2 k3 k4 hun hn
    go_wp2
    go_loopw [3, 16] (fun v z wr => ∃ (j : Nat) (vv : Value), vv = v ∧ j ≤ n ∧ z = .int .i64 j ∧ Os wr w3.heap.size v us ((B.us 4096 us).take j) ∧ Below w3.heap.size w3 wr) (fun _ z _ => n - (iv z).toNat)
    case atStart => exact ⟨0, _, rfl, by omega, rfl, Os.nil _ _ _, Below.refl _ _⟩
    case round =>
      obtain ⟨j, v, hvv, hj, rfl, hO, hW⟩ := hrel
      subst hvv
      have HO : Hid (Os wr w3.heap.size v us ((B.us 4096 us).take j)) := hO
      have HW : Hid (Below w3.heap.size w3 wr) := hW
      have HWw : Hid (Below w.heap.size w wr) := HB3.out.trans (hW.mono HB3.out.size)
      clear hO hW
      by_cases hlt : j < n
      · obtain ⟨x, hx⟩ : ∃ x, (B.us 4096 us)[j]? = some x := ⟨_, List.getElem?_eq_getElem (by rw [HN.out]; exact hlt)⟩
        obtain ⟨u, hu⟩ := us_get hx
        have c1 := HC.out wr HW.out j x hx
        have hq := HP1.out wr HWw.out
        have c2 := hq.cm
        have hlk := hq.mp.look_plain (Nat.le_refl _) hu
        have HT : Hid ((B.us 4096 us).take (j + 1) = (B.us 4096 us).take j ++ [x]) := by
          show (B.us 4096 us).take (j + 1) = _
          rw [List.take_add_one, hx]
          rfl
        have HG : Hid ((us x).getD 0 = u) := by show (us x).getD 0 = u; rw [hu]; rfl
        have hlen : ((B.us 4096 us).take j).length = j := by rw [List.length_take, HN.out]; omega
        have HLe : Hid (((B.us 4096 us).take j).length = j) := hlen
        have hsz := HW.out.size
        clear hq hx hu hlen
        have hjI : (j : Int) < (n : Int) := by omega
        have hOw : Hid (wr.ownsRow w3.heap.size 114 2 v j (enO us ((B.us 4096 us).take j))) := by have := HO.out; unfold Os at this; rwa [HLe.out] at this
        go_wp2_with (at_builtin; refine wpList_append_own _ rfl (.tmp 20) (.tmp 29) 96 rfl w3.heap.size 114 i0 _ 2 16 Tryz.underlying96 hi0 hz0 hz1 hz2 rfl (by decide) _ j _ rfl (hOw.out.alloc _) ⟨wr.heap.size, 0, none⟩ 1 1 [.int .i64 (x : Nat), .int .u8 (u : Nat)] rfl rfl (cell_two_new _ _ _ _) (by intro y hy; simp at hy; rcases hy with rfl | rfl <;> rfl) (by unfold maxLen; omega) (by omega) (by simp; omega) ?_; intro v2 w2 o2 gr2 nil2)
        go_roundw
        case rel =>
          refine ⟨j + 1, _, rfl, by omega, by go_num, ?_, (HW.out.alloc hsz _).grown gr2 (by simp; omega) (fun t ht => (HO.out.lt t ht).1)⟩
          rw [HT.out]
          unfold Os
          rw [enO_snoc, List.length_append, HLe.out, HG.out]
          exact o2
        case measure => simp [iv]; omega
      · obtain rfl : j = n := by omega
        have HO2 : Hid (Os wr w.heap.size v us (B.us 4096 us)) := by
          have := HO.out
          rw [List.take_of_length_le (by rw [HN.out]; omega)] at this
          refine ⟨this.1, ?_⟩
          rcases this.2 with q | ⟨g, cap, cur, q1, q2, q3⟩
          · exact Or.inl q
          · exact Or.inr ⟨g, cap, cur, q1, Nat.le_trans HB3.out.size q2, q3⟩
        go_wp2
        go_ret
        exact ⟨_, rfl, HO2.out, HWw.out⟩
end Go.Proofs.YtdempgjhjcjklaaGreat.P
