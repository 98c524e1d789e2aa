/- The document's ring: Next, what used answers told as data; no condition but a ring, and truths that can be read. -/
import Derived.Test.YtimeoinmepfpnaaRv
namespace Go.Proofs.Ytimeoinmepfpnaa.Ri
open Go.ChangeShapes Go.WideShapes Go.ChangeAt Go.RowKit
set_option linter.unusedVariables false
set_option maxRecDepth 8192

theorem results_tmp4 {fn : Func} {t u v z : Tmp} (h : fn.results = #[.tmp t, .tmp u, .tmp v, .tmp z]) (tmps : Array Value) (P : Program) (w : World) : (results fn tmps).run P w = .ok (.tuple #[tmps.getD t undef, tmps.getD u undef, tmps.getD v undef, tmps.getD z undef]) w := by simp [results, h]
/-- What the document's Next answers. -/
def RN (w : World) (s : Nat) (v : Value) (R : Option Int × Nat × List Int × List Int) (e : Ending) (w' : World) : Prop := ∃ va, e = .returned (.tuple #[.int .i64 (R.1.getD 0), .int .i64 (R.2.1 : Nat), va, .int .i64 (if R.1.isSome then 0 else 190)]) ∧ Own w' va R.2.2.2 ∧ Tr w s v R.2.2.1 w'
theorem RN.some {w w' : World} {s : Nat} {v va : Value} {R : Option Int × Nat × List Int × List Int} {x : Int} {k : Nat} {L' l' : List Int} (h : R = (some x, k, L', l')) (o : Own w' va l') (t : Tr w s v L' w') : RN w s v R (.returned (.tuple #[.int .i64 x, .int .i64 k, va, .int .i64 0])) w' := by
  subst h
  exact ⟨va, rfl, o, t⟩
theorem RN.none {w w' : World} {s : Nat} {v va : Value} {R : Option Int × Nat × List Int × List Int} {k : Nat} {L' l' : List Int} (h : R = (none, k, L', l')) (o : Own w' va l') (t : Tr w s v L' w') : RN w s v R (.returned (.tuple #[.int .i64 0, .int .i64 k, va, .int .i64 190])) w' := by
  subst h
  exact ⟨va, rfl, o, t⟩
/-- Where it stands in the middle: the ring at v', the list of those that were asked at u. -/
structure Mi (w wr : World) (s : Nat) (v v' u : Value) (L' l : List Int) : Prop where
  rr : Rr wr s v' L'
  ow : Own wr u l
  nu : ∀ g, u.ownBlock = some g → w.heap.size ≤ g
  nv : ∀ g, v'.ownBlock = some g → v.ownBlock = some g ∨ w.heap.size ≤ g
  ap : ∀ g, u.ownBlock = some g → v'.ownBlock ≠ some g
  ch : Ch (Sv s v) w wr
theorem Mi.tr {w wr : World} {s : Nat} {v v' u : Value} {L' l : List Int} (h : Mi w wr s v v' u L' l) : Tr w s v L' wr := ⟨v', h.rr, h.ch, h.nv⟩
/-- One more was asked. -/
theorem Mi.ask {w wr w2 : World} {s : Nat} {v v' u u2 : Value} {L L' l : List Int} {x : Int} (r : Rr w s v L) (h : Mi w wr s v v' u L' l) (j : Jn (wr.alloc (.cells #[.int .i64 x] 3)) u (l ++ [x]) u2 w2) : Mi w w2 s v v' u2 L' (l ++ [x]) := by
  have hs : s < wr.heap.size := h.rr.st.lt
  have hsz := (below1 wr (.cells #[.int .i64 x] 3)).size
  have k : Ch (fun i => u.ownBlock = some i) wr w2 := (Ch.below (below1 wr _)).same (Ch.grown j.2.1 (fun g hg => hg))
  have hsl := r.st.lt
  have hw := h.ch.size
  have nu : ∀ g, u2.ownBlock = some g → u.ownBlock = some g ∨ wr.heap.size ≤ g := fun g hg => (j.2.2 g hg).imp id (fun z => Nat.le_trans hsz z)
  refine ⟨h.rr.ch k (fun i hi q => ?_), j.1, fun g hg => (nu g hg).elim (h.nu g) (fun z => by omega), h.nv, fun g hg e => ?_, h.ch.trans k (fun _ q => q) (fun i q => Or.inr (h.nu i q))⟩
  · rcases hi with rfl | hi
    · have := h.nu _ q; omega
    · exact h.ap i q hi
  · rcases nu g hg with z | z
    · exact h.ap g z e
    · have := h.rr.lt g (Or.inr e); omega
/-- The hand went on. -/
theorem Mi.turn {w wr w2 : World} {s : Nat} {v v' v2 u : Value} {L L' L2 l : List Int} (r : Rr w s v L) (h : Mi w wr s v v' u L' l) (rr : Rr w2 s v2 L2) (k : Ch (One s) wr w2) (n : ∀ g, v2.ownBlock = some g → wr.heap.size ≤ g) : Mi w w2 s v v2 u L2 l := by
  have hs : s < w.heap.size := r.st.lt
  have hw := h.ch.size
  refine ⟨rr, h.ow.ch k (fun g hg q => by have := h.nu g hg; have : g = s := q; omega), h.nu, fun g hg => Or.inr (Nat.le_trans hw (n g hg)), fun g hg e => ?_, h.ch.trans k (fun _ q => q) (fun i q => Or.inl (Or.inl q))⟩
  have := n g e
  have := h.ow.lt g hg
  omega
set_option maxHeartbeats 4000000 in
theorem rNext_ok {w : World} {s B0 : Nat} {v : Value} {L : List Int} (r : Rr w s v L) (pin : Int) {ao : Option Addr} {T : List Bool} {cap : Nat} {rest : Bool} (hb : Bs B0 w ao T) (hle : T.length ≤ maxLen) (hB : B0 ≤ w.heap.size) (hs : ∀ i, Sv s v i → B0 ≤ i) :
    Calls Try.prog 31 #[.pointer (some ⟨s, 0, none⟩), .int .i64 pin, .slice ao T.length cap, .bool rest] w fun e w' => RN w s v (nxt (tell T rest) pin L []) e w' := by
  have HR : Hid (Rr w s v L) := r
  have c0 : w.cell? ⟨s, 0, none⟩ = some (.bool true) := r.st.cell 0
  have hle4 := r.ok.le
  obtain ⟨q, cp, hv, _⟩ := r.ow.lst
  have c1 : w.cell? ⟨s, 1, none⟩ = some (.slice q L.length cp) := hv ▸ r.st.cell 1
  unfold maxLen at hle
  by_cases hl0 : L = []
  · have HE : Hid (nxt (tell T rest) pin L [] = (none, 0, L, [])) := by subst hl0; rfl
    have hn0 : L.length = 0 := by rw [hl0]; rfl
    rw [hn0] at c1
    clear r hv hl0 hn0 hle4
    go_enter Try.func31, Try.ntmps31
    go_wp2
    (try simp only [Exit.inBlock, Exit.then]); refine bodyPost_ret (results_tmp4 rfl _ _ _) rfl ?_
    exact RN.none HE.out (Own.nil _) (Tr.same HR.out)
  · have HL0 : Hid (0 < L.length) := List.length_pos_iff.2 hl0
    have hpos : 0 < L.length := HL0.out
    have HBS : Hid (Bs B0 w ao T) := hb
    have HSB : Hid (∀ i, Sv s v i → B0 ≤ i) := hs
    have TU : Hid (∀ (W : World) (v' : Value) (x : Int) (T' : List Int), Rr W s v' (x :: T') → Calls Try.prog 39 #[.pointer (some ⟨s, 0, none⟩)] W fun e w' => e = .returned (.tuple #[]) ∧ ∃ v2, Rr w' s v2 (T' ++ [x]) ∧ Ch (One s) W w' ∧ ∀ g, v2.ownBlock = some g → W.heap.size ≤ g) := fun W v' x T' h => turn_ok h
    clear r hv hl0 hb hs
    have hn0 : ¬ (L.length = 0) := by omega
    generalize hln : L.length = n at *
    have hb0 : ((n : Int) == 0) = false := by simp; omega
    go_enter Try.func31, Try.ntmps31
    go_wp2_with fail
    go_loopw [12, 14] (fun tu ti wr => ∃ (j : Nat) (v' u : Value) (L' l : List Int), u = tu ∧ ti = .int .i64 ((j : Int) + 1) ∧ Mi w wr s v v' u L' l ∧ At (tell T rest) pin L [] j L' l ∧ l.length ≤ j) (fun _ ti _ => 2 * n + 2 - (intOf ti).toNat)
    case atStart => exact ⟨0, v, _, L, [], rfl, rfl, ⟨HR.out, Own.nil _, (fun g h => by cases h), (fun g h => Or.inl h), (fun g h => by cases h), Ch.refl _ _⟩, At.start _ _ _ _, Nat.le_refl _⟩
    case round =>
      obtain ⟨j, v', u, L', l, hu, rfl, hmi, hat, hlj⟩ := hrel
      subst hu
      have HM : Hid (Mi w wr s v v' u L' l) := hmi
      have HAT : Hid (At (tell T rest) pin L [] j L' l) := hat
      have hjle : j ≤ 2 * n + 1 := by have := hat.1; rw [hln] at this; exact this
      have hlen' : L'.length = n := by have := hat.2.2.1; omega
      by_cases hj : j < 2 * n + 1
      · obtain ⟨x, T', rfl⟩ : ∃ x T', L' = x :: T' := by
          cases L' with
          | nil => simp at hlen'; omega
          | cons x T' => exact ⟨x, T', rfl⟩
        have HJ : Hid (j < 2 * L.length + 1) := by unfold Hid; rw [hln]; exact hj
        obtain ⟨gv, cv, Lv, hv', hBv, hv1, _⟩ := hmi.rr.ow.shape.resolve_left (fun z => by cases z.2)
        have d1 : wr.cell? ⟨s, 1, none⟩ = some v' := hmi.rr.st.cell 1
        have dx : wr.cell? ⟨gv, 0, none⟩ = some (.int .i64 x) := by
          have := hmi.rr.ow
          rw [hv'] at this
          exact this.cells rfl
        have hgv : gv < wr.heap.size := hBv.lt
        rw [hv'] at d1
        rw [hlen'] at d1
        have hsl : s < wr.heap.size := hmi.rr.st.lt
        clear hmi hat hBv hv' hlen' hv1
        by_cases hp : x = pin
        · subst hp
          have HA3 : Hid (At (tell T rest) x L [] (j + 1) (T' ++ [x]) l) := HAT.out.pin HJ.out
          have HM2 : Hid (Mi w wr s v v' u (x :: T') l) := HM.out
          clear HAT HM
          go_wp2_with fail
          refine (TU.out _ _ _ _ HM2.out.rr).mono ?_
          rintro e w3 ⟨rfl, v3, r3, k3, n3⟩
          have HM3 : Hid (Mi w w3 s v v3 u (T' ++ [x]) l) := HM2.out.turn HR.out r3 k3 n3
          clear r3 k3 n3 HM2
          go_wp2
          go_roundw
          case rel => exact ⟨j + 1, v3, u, _, l, rfl, by go_num, HM3.out, HA3.out, by omega⟩
          case measure => simp [intOf]; omega
        · have HPN : Hid (x ≠ pin) := hp
          obtain ⟨qu, cu, huf, _⟩ := HM.out.ow.lst
          subst huf
          have HA : Hid (∀ ty, ∃ v' w', (Builtin.append_ #[33, 33] ty #[.slice qu l.length cu, .slice (some ⟨wr.heap.size, 0, none⟩) 1 1]).run Try.prog (wr.alloc (.cells #[.int .i64 x] 3)) = .ok v' w' ∧ Jn (wr.alloc (.cells #[.int .i64 x] 3)) (.slice qu l.length cu) (l ++ [x]) v' w') := fun ty => app_own (HM.out.ow.below (below1 _ _)) (lst_new wr [x] 1) (by simp; omega) ty
          have HLN : Hid ((l ++ [x]).length ≤ j + 1) := by unfold Hid; rw [List.length_append]; exact Nat.succ_le_succ hlj
          by_cases hlt : l.length < T.length
          · obtain ⟨bb, off, hao, hbb, cs⟩ := (HBS.out.below (HM.out.ch.to hB HSB.out)) l.length hlt
            subst hao
            have HT : Hid ((tell T rest l x).1 = T.getD l.length false) := by
              unfold Hid
              rw [tell_at hlt, List.getD_eq_getElem?_getD, List.getElem?_eq_getElem hlt]
              rfl
            generalize T.getD l.length false = t at *
            cases hbt : t
            · have HA3 : Hid (nxt (tell T rest) pin L [] = (some x, j + 1, T' ++ [x], l ++ [x])) := HAT.out.ans HJ.out HPN.out (HT.out.trans hbt)
              clear HAT HT
              rw [hbt] at cs
              clear hbt
              generalize T.length = tl at *
              generalize l.length = ll at *
              go_wp2_with (at_builtin; refine wpList_app rfl (.tmp 66) (.tmp 68) rfl _ _ rfl rfl (HA.out _) ?_; rintro u2 w2 hj; have HM2 : Hid (Mi w w2 s v v' u2 (x :: T') (l ++ [x])) := HM.out.ask HR.out hj; clear hj HM)
              refine (TU.out _ _ _ _ HM2.out.rr).mono ?_
              rintro e w3 ⟨rfl, v3, r3, k3, n3⟩
              have HM3 : Hid (Mi w w3 s v v3 u2 (T' ++ [x]) (l ++ [x])) := HM2.out.turn HR.out r3 k3 n3
              clear r3 k3 n3 HM2
              go_wp2
              (try simp only [Exit.inBlock, Exit.then]); refine bodyPost_ret (results_tmp4 rfl _ _ _) rfl ?_
              exact RN.some HA3.out HM3.out.ow HM3.out.tr
            · have HA3 : Hid (At (tell T rest) pin L [] (j + 1) (T' ++ [x]) (l ++ [x])) := HAT.out.pass HJ.out HPN.out (HT.out.trans hbt)
              clear HAT HT
              rw [hbt] at cs
              clear hbt
              generalize T.length = tl at *
              generalize l.length = ll at *
              go_wp2_with (at_builtin; refine wpList_app rfl (.tmp 66) (.tmp 68) rfl _ _ rfl rfl (HA.out _) ?_; rintro u2 w2 hj; have HM2 : Hid (Mi w w2 s v v' u2 (x :: T') (l ++ [x])) := HM.out.ask HR.out hj; clear hj HM)
              refine (TU.out _ _ _ _ HM2.out.rr).mono ?_
              rintro e w3 ⟨rfl, v3, r3, k3, n3⟩
              have HM3 : Hid (Mi w w3 s v v3 u2 (T' ++ [x]) (l ++ [x])) := HM2.out.turn HR.out r3 k3 n3
              clear r3 k3 n3 HM2
              go_wp2
              go_roundw
              case rel => exact ⟨j + 1, v3, u2, _, l ++ [x], rfl, by go_num, HM3.out, HA3.out, HLN.out⟩
              case measure => simp [intOf]; omega
          · have HT : Hid ((tell T rest l x).1 = rest) := tell_end (by omega)
            rcases (Bool.eq_false_or_eq_true rest).symm with hbt | hbt
            · have HA3 : Hid (nxt (tell T rest) pin L [] = (some x, j + 1, T' ++ [x], l ++ [x])) := HAT.out.ans HJ.out HPN.out (HT.out.trans hbt)
              clear HAT HT
              subst hbt
              generalize T.length = tl at *
              generalize l.length = ll at *
              go_wp2_with (at_builtin; refine wpList_app rfl (.tmp 66) (.tmp 68) rfl _ _ rfl rfl (HA.out _) ?_; rintro u2 w2 hj; have HM2 : Hid (Mi w w2 s v v' u2 (x :: T') (l ++ [x])) := HM.out.ask HR.out hj; clear hj HM)
              refine (TU.out _ _ _ _ HM2.out.rr).mono ?_
              rintro e w3 ⟨rfl, v3, r3, k3, n3⟩
              have HM3 : Hid (Mi w w3 s v v3 u2 (T' ++ [x]) (l ++ [x])) := HM2.out.turn HR.out r3 k3 n3
              clear r3 k3 n3 HM2
              go_wp2
              (try simp only [Exit.inBlock, Exit.then]); refine bodyPost_ret (results_tmp4 rfl _ _ _) rfl ?_
              exact RN.some HA3.out HM3.out.ow HM3.out.tr
            · have HA3 : Hid (At (tell T rest) pin L [] (j + 1) (T' ++ [x]) (l ++ [x])) := HAT.out.pass HJ.out HPN.out (HT.out.trans hbt)
              clear HAT HT
              subst hbt
              generalize T.length = tl at *
              generalize l.length = ll at *
              go_wp2_with (at_builtin; refine wpList_app rfl (.tmp 66) (.tmp 68) rfl _ _ rfl rfl (HA.out _) ?_; rintro u2 w2 hj; have HM2 : Hid (Mi w w2 s v v' u2 (x :: T') (l ++ [x])) := HM.out.ask HR.out hj; clear hj HM)
              refine (TU.out _ _ _ _ HM2.out.rr).mono ?_
              rintro e w3 ⟨rfl, v3, r3, k3, n3⟩
              have HM3 : Hid (Mi w w3 s v v3 u2 (T' ++ [x]) (l ++ [x])) := HM2.out.turn HR.out r3 k3 n3
              clear r3 k3 n3 HM2
              go_wp2
              go_roundw
              case rel => exact ⟨j + 1, v3, u2, _, l ++ [x], rfl, by go_num, HM3.out, HA3.out, HLN.out⟩
              case measure => simp [intOf]; omega
      · obtain rfl : j = 2 * n + 1 := by omega
        have HE : Hid (nxt (tell T rest) pin L [] = (none, 2 * n + 1, L', l)) := by
          have a := HAT.out
          rw [← hln] at a
          have b := a.end_
          rw [hln] at b
          exact b
        have hc : (((2 * n + 1 : Nat)) : Int) = 2 * (n : Int) + 1 := by omega
        clear hmi hat HAT
        go_wp2
        (try simp only [Exit.inBlock, Exit.then]); refine bodyPost_ret (results_tmp4 rfl _ _ _) rfl ?_
        have := RN.none (w := w) (s := s) (v := v) HE.out HM.out.ow HM.out.tr
        rw [hc] at this
        exact this
end Go.Proofs.Ytimeoinmepfpnaa.Ri
