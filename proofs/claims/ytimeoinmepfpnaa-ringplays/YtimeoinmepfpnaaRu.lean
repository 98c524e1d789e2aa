/- The document's ring: New, at, Add, Remove, List; no condition but a ring. -/
import Derived.Test.YtimeoinmepfpnaaRp
namespace Go.Proofs.Ytimeoinmepfpnaa.Ri
open Go.ChangeShapes Go.WideShapes Go.ChangeAt Go.RowKit
set_option linter.unusedVariables false
set_option maxRecDepth 8192

/-- The document's ring at s, its row v. -/
structure Rr (w : World) (s : Nat) (v : Value) (L : List Int) : Prop where
  st : Blk w s 56 [.bool true, v]
  ow : Own w v L
  ne : ∀ g, v.ownBlock = some g → s ≠ g
  ok : Ok L
def Sv (s : Nat) (v : Value) : Nat → Prop := fun k => k = s ∨ v.ownBlock = some k
theorem Rr.below {w w' : World} {s : Nat} {v : Value} {L : List Int} (r : Rr w s v L) (k : Below w.heap.size w w') : Rr w' s v L := ⟨r.st.below k, r.ow.below k, r.ne, r.ok⟩
theorem Rr.ch {F : Nat → Prop} {w w' : World} {s : Nat} {v : Value} {L : List Int} (r : Rr w s v L) (k : Ch F w w') (h : ∀ i, Sv s v i → ¬ F i) : Rr w' s v L := ⟨r.st.ch k (h s (Or.inl rfl)), r.ow.ch k (fun g hg => h g (Or.inr hg)), r.ne, r.ok⟩
theorem Rr.lt {w : World} {s : Nat} {v : Value} {L : List Int} (r : Rr w s v L) : ∀ i, Sv s v i → i < w.heap.size := fun i h => by
  rcases h with rfl | h
  · exact r.st.lt
  · exact r.ow.lt i h
/-- What a call leaves that turns it. -/
def Tr (w : World) (s : Nat) (v : Value) (L' : List Int) (w' : World) : Prop := ∃ v', Rr w' s v' L' ∧ Ch (Sv s v) w w' ∧ ∀ g, v'.ownBlock = some g → v.ownBlock = some g ∨ w.heap.size ≤ g
theorem Tr.same {w : World} {s : Nat} {v : Value} {L : List Int} (r : Rr w s v L) : Tr w s v L w := ⟨v, r, Ch.refl _ _, fun g h => Or.inl h⟩
theorem rNew_ok (w : World) : Calls Try.prog 9 #[] w fun e w' => e = .returned (.pointer (some ⟨w.heap.size, 0, none⟩)) ∧ Rr w' w.heap.size (.slice none 0 0) [] ∧ Below w.heap.size w w' := by
  go_enter Try.func9, Try.ntmps9
  go_wp2
  go_ret
  exact ⟨rfl, ⟨blk_new w [.bool true, .slice none 0 0] 56, Own.nil _, fun g h => (by cases h), Ok.nil⟩, below1 _ _⟩
theorem Lst.at_ {w : World} {q : Option Addr} {n cap : Nat} {L : List Int} (h : Lst w (.slice q n cap) L) (hn : L.length = n) {k : Nat} (hk : k < n) : ∃ g o, q = some ⟨g, o, none⟩ ∧ w.cell? ⟨g, o + k, none⟩ = some (.int .i64 (L.getD k 0)) := by
  obtain ⟨q', cap', e, h⟩ := h
  injection e with e1 e2 e3
  subst e1
  rcases h with h | ⟨g, o, e, h⟩
  · rw [h] at hn
    simp at hn
    omega
  · exact ⟨g, o, e, h k _ (by rw [List.getD_eq_getElem?_getD, List.getElem?_eq_getElem (by omega)]; rfl)⟩
theorem at_at {w : World} {s : Nat} {v : Value} {L : List Int} {x : Int} {i : Nat} (r : Rr w s v L) (hi : Plc L x i) :
    Calls Try.prog 29 #[.pointer (some ⟨s, 0, none⟩), .int .i64 x] w fun e w' => e = .returned (.int .i64 i) ∧ w' = w := by
  have hlt := hi.lt
  have hb := r.ok.le
  have hl := r.ow.lst
  obtain ⟨q, cap, rfl, _⟩ := id hl
  have c1 : w.cell? ⟨s, 1, none⟩ = some (.slice q L.length cap) := r.st.cell 1
  have HC : Hid (∀ k, k < L.length → ∃ g o, q = some ⟨g, o, none⟩ ∧ w.cell? ⟨g, o + k, none⟩ = some (.int .i64 (L.getD k 0))) := fun k hk => hl.at_ rfl hk
  have HX : Hid (L.getD i 0 = x) := by unfold Hid; rw [List.getD_eq_getElem?_getD, hi.1]; rfl
  have HN : Hid (∀ k, k < i → L.getD k 0 ≠ x) := fun k hk e => hi.2 k hk (by
    rw [List.getD_eq_getElem?_getD, List.getElem?_eq_getElem (by omega)] at e
    rw [List.getElem?_eq_getElem (by omega)]
    exact congrArg some e)
  clear r hi hl
  generalize L.length = n at *
  go_enter Try.func29, Try.ntmps29
  go_wp2
  go_loop [5] (fun j => ∃ k : Nat, k ≤ i ∧ j = .int .i64 k) (fun j => n - (intOf j).toNat)
  case atStart => exact ⟨0, by omega, rfl⟩
  case round =>
    obtain ⟨k, hk, rfl⟩ := hrel
    have hkn : k < n := by omega
    obtain ⟨g, o, rfl, hc⟩ := HC.out k hkn
    by_cases e : k = i
    · subst e
      rw [HX.out] at hc
      go_wp2
      go_ret
      exact ⟨rfl, rfl⟩
    · have hne := HN.out k (by omega)
      generalize L.getD k 0 = y at *
      go_wp2
      go_round
      case rel => exact ⟨k + 1, by omega, by go_num⟩
      case measure => simp [intOf]; omega
theorem at_no {w : World} {s : Nat} {v : Value} {L : List Int} {x : Int} (r : Rr w s v L) (hi : x ∉ L) :
    Calls Try.prog 29 #[.pointer (some ⟨s, 0, none⟩), .int .i64 x] w fun e w' => e = .returned (.int .i64 (-1)) ∧ w' = w := by
  have hb := r.ok.le
  have hl := r.ow.lst
  obtain ⟨q, cap, rfl, _⟩ := id hl
  have c1 : w.cell? ⟨s, 1, none⟩ = some (.slice q L.length cap) := r.st.cell 1
  have HC : Hid (∀ k, k < L.length → ∃ g o, q = some ⟨g, o, none⟩ ∧ w.cell? ⟨g, o + k, none⟩ = some (.int .i64 (L.getD k 0))) := fun k hk => hl.at_ rfl hk
  have HN : Hid (∀ k, k < L.length → L.getD k 0 ≠ x) := fun k hk e => hi (by
    rw [List.getD_eq_getElem?_getD, List.getElem?_eq_getElem (by omega)] at e
    rw [← e]
    exact List.getElem_mem _)
  clear r hi hl
  generalize L.length = n at *
  go_enter Try.func29, Try.ntmps29
  go_wp2
  go_loop [5] (fun j => ∃ k : Nat, k ≤ n ∧ j = .int .i64 k) (fun j => n - (intOf j).toNat)
  case atStart => exact ⟨0, by omega, rfl⟩
  case round =>
    obtain ⟨k, hk, rfl⟩ := hrel
    by_cases hkn : k < n
    · obtain ⟨g, o, rfl, hc⟩ := HC.out k hkn
      have hne := HN.out k hkn
      generalize L.getD k 0 = y at *
      go_wp2
      go_round
      case rel => exact ⟨k + 1, by omega, by go_num⟩
      case measure => simp [intOf]; omega
    · obtain rfl : k = n := by omega
      go_wp2
      go_ret
      exact ⟨rfl, rfl⟩
theorem rList_ok {w : World} {s : Nat} {v : Value} {L : List Int} (r : Rr w s v L) :
    Calls Try.prog 15 #[.pointer (some ⟨s, 0, none⟩)] w fun e w' => ∃ v, e = .returned v ∧ Nw w v L w' := by
  have c1 : w.cell? ⟨s, 1, none⟩ = some v := r.st.cell 1
  have hb := r.ok.le
  have HA : Hid (∀ ty, ∃ v' w', (Builtin.append_ #[33, 33] ty #[.slice none 0 0, v]).run Try.prog w = .ok v' w' ∧ Jn w (.slice none 0 0) ([] ++ L) v' w') := fun ty => app_own (Own.nil w) r.ow.lst (by simp; omega) ty
  clear r
  go_enter Try.func15, Try.ntmps15
  go_wp2_with (at_builtin; refine wpList_app rfl (.tmp 6) (.tmp 10) rfl _ _ rfl rfl (HA.out _) ?_; rintro v2 w2 hj; have HJ : Hid (Jn w (.slice none 0 0) ([] ++ L) v2 w2) := hj; clear hj)
  go_ret
  exact ⟨v2, rfl, HJ.out.1, below_of HJ.out.2.1 _ (Nat.le_refl _) (fun k hk => by cases hk), fun g hg => (HJ.out.2.2 g hg).elim (fun z => by cases z) id⟩

theorem Tr.store {w w2 : World} {s : Nat} {v v2 : Value} {L L' : List Int} (r : Rr w s v L) (o : Own w2 v2 L') (k : Ch (Sv s v) w w2) (b : Blk w2 s 56 [.bool true, v]) (n : ∀ g, v2.ownBlock = some g → v.ownBlock = some g ∨ w.heap.size ≤ g) (h : Ok L') : Tr w s v L' (w2.setCell ⟨s, 1, none⟩ v2) := by
  have hs : ∀ g, v2.ownBlock = some g → s ≠ g := fun g hg => (n g hg).elim (r.ne g) (fun z e => by have := r.st.lt; omega)
  refine ⟨v2, ⟨b.set 1 v2, o.of_eq (fun g hg => (grown_setCell' w2 s 1 v2).block g (o.lt g hg) (some_ne (Ne.symm (hs g hg)))), hs, h⟩, k.same (Ch.grown (grown_setCell' w2 s 1 v2) (fun g hg => Or.inl (by cases hg; rfl))), n⟩
set_option maxHeartbeats 1000000 in
theorem rAdd_ok {w : World} {s : Nat} {v : Value} {L : List Int} (r : Rr w s v L) (x : Int) (hx : x < 9223372036854775808) :
    Calls Try.prog 11 #[.pointer (some ⟨s, 0, none⟩), .int .i64 x] w fun e w' => ∃ L' er, e = .returned (.int .i64 er) ∧ AdS L x L' er ∧ Tr w s v L' w' := by
  have HR : Hid (Rr w s v L) := r
  have hle := r.ok.le
  obtain ⟨q, cap, hv, _⟩ := r.ow.lst
  have c0 : w.cell? ⟨s, 0, none⟩ = some (.bool true) := r.st.cell 0
  have c1 : w.cell? ⟨s, 1, none⟩ = some v := r.st.cell 1
  have HLE : Hid (L.length ≤ 4096) := hle
  by_cases hx0 : x < 0
  · clear r
    go_enter Try.func11, Try.ntmps11
    go_wp2
    go_ret
    exact ⟨_, _, rfl, Or.inl ⟨hx0, rfl, rfl⟩, Tr.same HR.out⟩
  · by_cases hm : x ∈ L
    · obtain ⟨i, hi⟩ := (plc_or L x).resolve_right (fun z => z hm)
      have CA : Hid (Calls _ _ _ _ _) := at_at r hi
      have HM : Hid (x ∈ L) := hm
      clear r hm hi
      go_enter Try.func11, Try.ntmps11
      go_wp2_with (go_at_call 29; refine CA.out.mono ?_; rintro e w' ⟨rfl, hw⟩; obtain rfl := hw.symm)
      go_ret
      exact ⟨_, _, rfl, Or.inr (Or.inl ⟨by omega, HM.out, rfl, rfl⟩), Tr.same HR.out⟩
    · have CA : Hid (Calls _ _ _ _ _) := at_no r hm
      have HM : Hid (x ∉ L) := hm
      subst hv
      by_cases hfull : 4096 ≤ L.length
      · have hfi : L.length = 4096 := by omega
        have HFU : Hid (AdS L x L 4) := Or.inr (Or.inr (Or.inl ⟨by omega, HM.out, hfull, rfl, rfl⟩))
        have hfI : (4096 : Int) ≤ (L.length : Int) := by omega
        clear r hm hfi hfull hle HLE
        generalize L.length = n at *
        go_enter Try.func11, Try.ntmps11
        go_wp2_with (go_at_call 29; refine CA.out.mono ?_; rintro e w' ⟨rfl, hw⟩; obtain rfl := hw.symm)
        go_ret
        exact ⟨_, _, rfl, HFU.out, Tr.same HR.out⟩
      · have ha : AdS L x (L ++ [x]) 0 := Or.inr (Or.inr (Or.inr ⟨by omega, hm, by omega, rfl, rfl⟩))
        have HAD : Hid (AdS L x (L ++ [x]) 0 ∧ Ok (L ++ [x])) := ⟨ha, r.ok.add hx ha⟩
        have hlx : (L ++ [x]).length = L.length + 1 := by simp
        have HA : Hid (∀ ty, ∃ v' w', (Builtin.append_ #[33, 33] ty #[.slice q L.length cap, .slice (some ⟨w.heap.size, 0, none⟩) 1 1]).run Try.prog (w.alloc (.cells #[.int .i64 x] 3)) = .ok v' w' ∧ Jn (w.alloc (.cells #[.int .i64 x] 3)) (.slice q L.length cap) (L ++ [x]) v' w') := fun ty => app_own (r.ow.below (below1 _ _)) (lst_new w [x] 1) (by simp; omega) ty
        have FIN : Hid (∀ v2 w2, Jn (w.alloc (.cells #[.int .i64 x] 3)) (.slice q L.length cap) (L ++ [x]) v2 w2 → Blk w2 s 56 [.bool true, .slice q L.length cap] ∧ Tr w s (.slice q L.length cap) (L ++ [x]) (w2.setCell ⟨s, 1, none⟩ v2)) := fun v2 w2 hj => by
          have k1 : Ch (Sv s (.slice q L.length cap)) w w2 := (Ch.below (below1 w _)).same (Ch.grown hj.2.1 (fun g hg => Or.inr hg))
          have b2 : Blk w2 s 56 [.bool true, .slice q L.length cap] := (HR.out.st.below (below1 w _)).kept hj.2.1 (fun e => HR.out.ne s e.symm rfl)
          exact ⟨b2, Tr.store HR.out hj.1 k1 b2 (fun g hg => (hj.2.2 g hg).imp id (fun z => Nat.le_trans (below1 w _).size z)) HAD.out.2⟩
        have hfI : decide ((L.length : Int) ≥ 4096) = false := decide_eq_false (by omega)
        have hle5 : L.length ≤ 5000 := by omega
        clear r hm ha hfull hle HLE
        have fz : w.frozen? ⟨s, 1, none⟩ = false := HR.out.st.frozen 1
        generalize hn : L.length = n at *
        go_enter Try.func11, Try.ntmps11
        go_wp2_with (first | (go_at_call 29; refine CA.out.mono ?_; rintro e w' ⟨rfl, hw⟩; obtain rfl := hw.symm) | (at_builtin; refine wpList_app rfl (.tmp 30) (.tmp 32) rfl _ _ rfl rfl (HA.out _) ?_; rintro v2 w2 hj; obtain ⟨q2, c2, hv2, _⟩ := hj.1.lst; rw [hlx] at hv2; subst hv2; have HJ : Hid _ := FIN.out _ w2 hj; have g1 : w2.cell? ⟨s, 1, none⟩ = some (.slice q n cap) := HJ.out.1.cell 1; have z1 : w2.frozen? ⟨s, 1, none⟩ = false := HJ.out.1.frozen 1; clear hj))
        go_ret
        exact ⟨_, _, rfl, HAD.out.1, HJ.out.2⟩
/-- What was kept of the first k, but for the one at the place i. -/
def ker (L : List Int) (i k : Nat) : List Int := (L.take k).eraseIdx i
theorem ker_zero (L : List Int) (i : Nat) : ker L i 0 = [] := by simp [ker]
theorem ker_all (L : List Int) (i : Nat) : ker L i L.length = L.eraseIdx i := by simp [ker]
theorem ker_hit {L : List Int} {i : Nat} (h : i < L.length) : ker L i (i + 1) = ker L i i := by
  have hl : (L.take i).length = i := by rw [List.length_take]; omega
  unfold ker
  rw [List.take_add_one, List.getElem?_eq_getElem h, Option.toList_some, List.eraseIdx_append_of_length_le (by omega), hl, Nat.sub_self, List.eraseIdx_of_length_le (l := L.take i) (by omega)]
  simp
theorem ker_pass {L : List Int} {i k : Nat} (h : k < L.length) (hne : k ≠ i) : ker L i (k + 1) = ker L i k ++ [L.getD k 0] := by
  have hl : (L.take k).length = k := by rw [List.length_take]; omega
  have hg : L.getD k 0 = L[k] := by rw [List.getD_eq_getElem?_getD, List.getElem?_eq_getElem h]; rfl
  unfold ker
  rw [List.take_add_one, List.getElem?_eq_getElem h, Option.toList_some, hg]
  by_cases q : i < k
  · rw [List.eraseIdx_append_of_lt_length (by omega)]
  · rw [List.eraseIdx_of_length_le (by rw [List.length_append, hl]; simp; omega), List.eraseIdx_of_length_le (l := L.take k) (by omega)]
theorem ker_len (L : List Int) (i k : Nat) : (ker L i k).length ≤ L.length := by
  unfold ker
  refine Nat.le_trans (List.length_eraseIdx_le ..) ?_
  rw [List.length_take]
  omega
end Go.Proofs.Ytimeoinmepfpnaa.Ri
