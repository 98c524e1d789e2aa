/- The document's ring: Remove, the hand goes on; no condition but a ring. -/
import Derived.Test.YtimeoinmepfpnaaRu
namespace Go.Proofs.Ytimeoinmepfpnaa.Ri
open Go.ChangeShapes Go.WideShapes Go.ChangeAt Go.RowKit
set_option linter.unusedVariables false
set_option maxRecDepth 8192

set_option maxHeartbeats 2000000 in
theorem rRemove_ok {w : World} {s : Nat} {v : Value} {L : List Int} (r : Rr w s v L) (x : Int) :
    Calls Try.prog 30 #[.pointer (some ⟨s, 0, none⟩), .int .i64 x] w fun e w' => ∃ L' er, e = .returned (.int .i64 er) ∧ RmS L x L' er ∧ Tr w s v L' w' := by
  have HR : Hid (Rr w s v L) := r
  have c0 : w.cell? ⟨s, 0, none⟩ = some (.bool true) := r.st.cell 0
  rcases plc_or L x with ⟨i, hi⟩ | hi
  · have CA : Hid (Calls _ _ _ _ _) := at_at r hi
    have hlt := hi.lt
    have hle := r.ok.le
    have HL : Hid (Lst w v L) := r.ow.lst
    obtain ⟨q, cap, hv, _⟩ := r.ow.lst
    subst hv
    have hRM : RmS L x (L.eraseIdx i) 0 := Or.inl ⟨hi.mem, (hi.erase r.ok.nd).symm, rfl⟩
    have HRM : Hid (RmS L x (L.eraseIdx i) 0 ∧ Ok (L.eraseIdx i)) := ⟨hRM, r.ok.rm hRM⟩
    have HK1 : Hid (ker L i (i + 1) = ker L i i) := ker_hit hlt
    have HK2 : Hid (∀ k, k < L.length → k ≠ i → ker L i (k + 1) = ker L i k ++ [L.getD k 0]) := fun k h1 h2 => ker_pass h1 h2
    have HK3 : Hid (ker L i L.length = L.eraseIdx i) := ker_all L i
    have HK4 : Hid (∀ k, (ker L i k).length ≤ L.length) := ker_len L i
    have HC : Hid (∀ k, k < L.length → ∃ g o, q = some ⟨g, o, none⟩ ∧ w.cell? ⟨g, o + k, none⟩ = some (.int .i64 (L.getD k 0))) := fun k hk => HL.out.at_ rfl hk
    clear r hi hRM
    generalize hn : L.length = n at *
    go_enter Try.func30, Try.ntmps30
    go_wp2_with (go_at_call 29; refine CA.out.mono ?_; rintro e w' ⟨rfl, hw⟩; obtain rfl := hw.symm)
    go_loopw [6, 7] (fun tu ti wr => ∃ (k : Nat) (u : Value), u = tu ∧ ti = .int .i64 (k : Nat) ∧ k ≤ n ∧ Own wr u (ker L i k) ∧ Below w.heap.size w wr ∧ (∀ g, u.ownBlock = some g → w.heap.size ≤ g)) (fun _ ti _ => n - (intOf ti).toNat)
    case atStart => exact ⟨0, _, rfl, rfl, by omega, by rw [ker_zero]; exact Own.nil _, Below.refl _ _, fun g h => by cases h⟩
    case round =>
      obtain ⟨k, u, hu, rfl, hk, ho, hb, hf⟩ := hrel
      subst hu
      have HX : Hid (Own wr u (ker L i k) ∧ Below w.heap.size w wr ∧ ∀ g, u.ownBlock = some g → w.heap.size ≤ g) := ⟨ho, hb, hf⟩
      have c1 : wr.cell? ⟨s, 1, none⟩ = some (.slice q n cap) := (HR.out.st.below hb).cell 1
      have fz : wr.frozen? ⟨s, 1, none⟩ = false := (HR.out.st.below hb).frozen 1
      by_cases hkn : k < n
      · by_cases hki : k = i
        · subst hki
          clear ho hb hf
          go_wp2
          go_roundw
          case rel => exact ⟨k + 1, _, rfl, by go_num, by omega, by rw [HK1.out]; exact HX.out.1, HX.out.2⟩
          case measure => simp [intOf]; omega
        · obtain ⟨g, o, rfl, hc0⟩ := HC.out k hkn
          have hc : wr.cell? ⟨g, o + k, none⟩ = some (.int .i64 (L.getD k 0)) := (World.cell?_of_block (w := w) (a := ⟨g, o + k, none⟩) (hb.block g (cell_lt hc0))).trans hc0
          have HAP : Hid (∀ ty, ∃ v' w', (Builtin.append_ #[33, 33] ty #[u, .slice (some ⟨wr.heap.size, 0, none⟩) 1 1]).run Try.prog (wr.alloc (.cells #[.int .i64 (L.getD k 0)] 3)) = .ok v' w' ∧ Jn (wr.alloc (.cells #[.int .i64 (L.getD k 0)] 3)) u (ker L i k ++ [L.getD k 0]) v' w') := fun ty => app_own (ho.below (below1 _ _)) (lst_new wr [L.getD k 0] 1) (by have := HK4.out k; simp; omega) ty
          have HE : Hid (ker L i (k + 1) = ker L i k ++ [L.getD k 0]) := HK2.out k hkn hki
          clear ho hb hf hc0
          generalize L.getD k 0 = y at *
          go_wp2_with (at_builtin; refine wpList_app rfl (.tmp 34) (.tmp 42) rfl _ _ rfl rfl (HAP.out _) ?_; rintro v2 w2 hj; have HJ : Hid (Jn (wr.alloc (.cells #[.int .i64 y] 3)) u (ker L i k ++ [y]) v2 w2) := hj; clear hj)
          go_roundw
          case rel =>
            have b1 : Below w.heap.size w (wr.alloc (.cells #[.int .i64 y] 3)) := HX.out.2.1.trans ((below1 _ _).mono HX.out.2.1.size)
            exact ⟨k + 1, _, rfl, by go_num, by omega, by rw [HE.out]; exact HJ.out.1, b1.trans (below_of HJ.out.2.1 _ b1.size HX.out.2.2), fun z hz => (HJ.out.2.2 z hz).elim (HX.out.2.2 z) (fun z2 => Nat.le_trans b1.size z2)⟩
          case measure => simp [intOf]; omega
      · obtain rfl : k = n := by omega
        rw [HK3.out] at HX
        have FT : Hid (Tr w s (.slice q k cap) (L.eraseIdx i) (wr.setCell ⟨s, 1, none⟩ u)) := Tr.store HR.out HX.out.1 (Ch.below HX.out.2.1) (HR.out.st.below HX.out.2.1) (fun g hg => Or.inr (HX.out.2.2 g hg)) HRM.out.2
        obtain ⟨q2, c2, hu2, _⟩ := HX.out.1.lst
        subst hu2
        clear ho hb hf
        go_wp2
        go_ret
        exact ⟨_, _, rfl, HRM.out.1, FT.out⟩
  · have CA : Hid (Calls _ _ _ _ _) := at_no r hi
    have HM : Hid (x ∉ L) := hi
    clear r hi
    go_enter Try.func30, Try.ntmps30
    go_wp2_with (go_at_call 29; refine CA.out.mono ?_; rintro e w' ⟨rfl, hw⟩; obtain rfl := hw.symm)
    go_ret
    exact ⟨_, _, rfl, Or.inr ⟨HM.out, rfl, rfl⟩, Tr.same HR.out⟩
theorem sl_tail (g n cap : Nat) (h1 : 1 ≤ n) (hn : n ≤ cap) : ∃ q, (∀ W : World, (Instr.sliceAt 33 (.slice (some ⟨g, 0, none⟩) n cap) (some (.int .i64 1)) none none).run Try.prog W = .ok (.slice q (n - 1) (cap - 1)) W) ∧ (n = 1 ∨ q = some ⟨g, 1, none⟩) := by
  by_cases z : cap = 1
  · refine ⟨some ⟨g, 0, none⟩, fun W => ?_, Or.inl (by omega)⟩
    subst z
    obtain rfl : n = 1 := by omega
    simp [Instr.sliceAt, go_sem, run_underlying Try.underlying33]
  · refine ⟨some ⟨g, 1, none⟩, fun W => ?_, Or.inr rfl⟩
    have h3 : ¬ ((n : Int) < 1) := by omega
    simp [Instr.sliceAt, go_sem, run_underlying Try.underlying33, h3, z]
/-- A row that is none of what was there. -/
theorem turn_ok {w : World} {s : Nat} {v : Value} {x : Int} {T : List Int} (r : Rr w s v (x :: T)) :
    Calls Try.prog 39 #[.pointer (some ⟨s, 0, none⟩)] w fun e w' => e = .returned (.tuple #[]) ∧ ∃ v', Rr w' s v' (T ++ [x]) ∧ Ch (One s) w w' ∧ ∀ g, v'.ownBlock = some g → w.heap.size ≤ g := by
  have HR : Hid (Rr w s v (x :: T)) := r
  have hle := r.ok.le
  obtain ⟨g, cap, Lv, hv, hB, h1, h2, _⟩ := r.ow.shape.resolve_left (fun z => by cases z.2)
  subst hv
  rw [List.length_cons] at *
  have c1 : w.cell? ⟨s, 1, none⟩ = some (.slice (some ⟨g, 0, none⟩) (T.length + 1) cap) := r.st.cell 1
  have cx : w.cell? ⟨g, 0, none⟩ = some (.int .i64 x) := (show Own w (.slice (some ⟨g, 0, none⟩) (x :: T).length cap) (x :: T) from r.ow).cells rfl
  obtain ⟨q, hs, hq⟩ := sl_tail g (T.length + 1) cap (by omega) h1
  rw [Nat.add_sub_cancel] at hs
  have hT : Lst w (.slice q T.length (cap - 1)) T := by
    refine ⟨_, _, rfl, ?_⟩
    rcases hq with z | z
    · exact Or.inl (List.eq_nil_of_length_eq_zero (by omega))
    · exact Or.inr ⟨g, 1, z, fun i t ht => (show Own w (.slice (some ⟨g, 0, none⟩) (x :: T).length cap) (x :: T) from r.ow).cells (by rw [Nat.add_comm, List.getElem?_cons_succ]; exact ht)⟩
  have HA : Hid (∀ ty, ∃ v' w', (Builtin.append_ #[33, 33] ty #[.slice none 0 0, .slice q T.length (cap - 1)]).run Try.prog w = .ok v' w' ∧ Jn w (.slice none 0 0) ([] ++ T) v' w') := fun ty => app_own (Own.nil w) hT (by simp; omega) ty
  have hgl : g < w.heap.size := hB.lt
  have hsl : s < w.heap.size := r.st.lt
  have HT : Hid (T.length ≤ 5000) := by unfold Hid; omega
  have hlx : (T ++ [x]).length = T.length + 1 := by simp
  have FIN : Hid (∀ (w1 : World) (v1 : Value) (w2 : World) (v2 : Value), (Own w1 v1 T ∧ Below w.heap.size w w1 ∧ ∀ g, v1.ownBlock = some g → w.heap.size ≤ g) → Jn (w1.alloc (.cells #[.int .i64 x] 3)) v1 (T ++ [x]) v2 w2 → Blk w2 s 56 [.bool true, .slice (some ⟨g, 0, none⟩) (T.length + 1) cap] ∧ ∃ v', Rr (w2.setCell ⟨s, 1, none⟩ v2) s v' (T ++ [x]) ∧ Ch (One s) w (w2.setCell ⟨s, 1, none⟩ v2) ∧ ∀ g, v'.ownBlock = some g → w.heap.size ≤ g) := fun w1 v1 w2 v2 h hj => by
    have k1 : Below w.heap.size w (w1.alloc (.cells #[.int .i64 x] 3)) := h.2.1.trans ((below1 _ _).mono h.2.1.size)
    have k2 : Below w.heap.size w w2 := k1.trans (below_of hj.2.1 _ k1.size h.2.2)
    have n2 : ∀ g, v2.ownBlock = some g → w.heap.size ≤ g := fun g hg => (hj.2.2 g hg).elim (h.2.2 g) (fun z => Nat.le_trans k1.size z)
    have b2 := HR.out.st.below k2
    have hs : ∀ g, v2.ownBlock = some g → s ≠ g := fun g hg e => by have := n2 g hg; have := HR.out.st.lt; omega
    refine ⟨b2, v2, ⟨b2.set 1 v2, hj.1.of_eq (fun g hg => (grown_setCell' w2 s 1 v2).block g (hj.1.lt g hg) (some_ne (Ne.symm (hs g hg)))), hs, HR.out.ok.perm (List.perm_append_comm (l₁ := T) (l₂ := [x]))⟩, (Ch.below k2).same (Ch.grown (grown_setCell' w2 s 1 v2) (fun g hg => by cases hg; rfl)), n2⟩
  clear r hB h2 hT
  generalize hn : T.length = n at *
  have HT2 : Hid (T.length + [x].length ≤ 100000) := by unfold Hid; rw [hn]; have := HT.out; simp; omega
  clear hn
  go_enter Try.func39, Try.ntmps39
  go_wp2_with (first
    | (at_builtin; refine wpList_app rfl (.tmp 3) (.tmp 8) rfl _ _ rfl rfl (HA.out _) ?_; rintro v1 w1 hj; have HJ : Hid (Own w1 v1 T ∧ Below w.heap.size w w1 ∧ ∀ g, v1.ownBlock = some g → w.heap.size ≤ g) := ⟨hj.1, below_of hj.2.1 _ (Nat.le_refl _) (fun k hk => by cases hk), fun g hg => (hj.2.2 g hg).elim (fun z => by cases z) id⟩; have d1 : w1.cell? ⟨s, 1, none⟩ = some (.slice (some ⟨g, 0, none⟩) (n + 1) cap) := (HJ.out.2.1.cell (p := ⟨s, 1, none⟩) hsl).trans c1; have dx : w1.cell? ⟨g, 0, none⟩ = some (.int .i64 x) := (HJ.out.2.1.cell (p := ⟨g, 0, none⟩) hgl).trans cx; clear hj)
    | (at_builtin; refine wpList_app rfl (.tmp 11) (.tmp 18) rfl _ _ rfl rfl (app_own (k := [x]) (HJ.out.1.below (below1 _ _)) (lst_new w1 [x] 1) HT2.out _) ?_; rintro v2 w2 hj; obtain ⟨q2, c2, hv2, _⟩ := hj.1.lst; rw [hlx] at hv2; subst hv2; have HF : Hid _ := FIN.out w1 v1 w2 _ HJ.out hj; have f1 : w2.cell? ⟨s, 1, none⟩ = some (.slice (some ⟨g, 0, none⟩) (n + 1) cap) := HF.out.1.cell 1; have z1 : w2.frozen? ⟨s, 1, none⟩ = false := HF.out.1.frozen 1; clear hj))
  go_end0
  exact ⟨rfl, HF.out.2⟩
end Go.Proofs.Ytimeoinmepfpnaa.Ri
