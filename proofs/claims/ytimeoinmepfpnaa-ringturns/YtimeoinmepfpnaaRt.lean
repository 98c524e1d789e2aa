/- What used says out of a list of truths: it notes of whom it was asked; no condition. -/
import Derived.Test.YtimeoinmepfpnaaRp
namespace Go.Proofs.Ytimeoinmepfpnaa.Ri
open Go.ChangeShapes Go.WideShapes Go.ChangeAt Go.RowKit
set_option linter.unusedVariables false
set_option maxRecDepth 8192

/-- The one that is asked: its call y, of whom it was asked; its list lies in new memory. -/
def Ak (B0 B a : Nat) (y : Dv) (w : World) (l : List Int) : Prop := (∃ v, Blk w a 50 [.int .i64 y.k, .int .i64 y.id, .slice y.ao y.T.length y.cap, .bool y.rest, v] ∧ Own w v l ∧ (∀ g, v.ownBlock = some g → B ≤ g)) ∧ Bs B0 w y.ao y.T
theorem Ak.ch {F : Nat → Prop} {B0 B a : Nat} {y : Dv} {w w' : World} {l : List Int} (h : Ak B0 B a y w l) (k : Ch F w w') (ha : ¬ F a) (hF : ∀ i, F i → B0 ≤ i ∧ i < B) (hB : B0 ≤ w.heap.size) : Ak B0 B a y w' l := by
  obtain ⟨⟨v, h1, h2, h3⟩, h4⟩ := h
  exact ⟨⟨v, h1.ch k ha, h2.ch k (fun g hg q => by have := h3 g hg; have := hF g q; omega), h3⟩, h4.below (k.to hB (fun i q => (hF i q).1))⟩
set_option maxHeartbeats 2000000 in
theorem us_asked (B0 B a p : Nat) (y : Dv) (hle : y.T.length ≤ maxLen) (hap : a ≠ p) (h1 : B0 ≤ a) (h2 : B0 ≤ p) (h3 : p < B) (h4 : a < B) : Uz List.length 21 #[.pointer (some ⟨a, 0, none⟩)] (tell y.T y.rest) (fun w l => Ak B0 B a y w l) (fun k => k = a) B p where
  ent := fun args w => by rfl
  one := fun s x => by show (s ++ [x]).length ≤ _; rw [List.length_append]; exact Nat.le_refl _
  keep := fun W W' s hB h k => h.ch k (fun q => hap q) (fun i q => by cases q; exact ⟨h2, h3⟩) (by omega)
  call := fun W l x hl hBW h hx0 hx1 => by
    show Calls Try.prog 21 #[.pointer (some ⟨a, 0, none⟩), .int .i64 x] W _
    obtain ⟨⟨v, b1, o1, n1⟩, bs1⟩ := h
    have hlen : l.length ≤ 9000 := hl
    have k2 : W.cell? ⟨a, 2, none⟩ = some (.slice y.ao y.T.length y.cap) := b1.cell 2
    have k3 : W.cell? ⟨a, 3, none⟩ = some (.bool y.rest) := b1.cell 3
    have k4 : W.cell? ⟨a, 4, none⟩ = some v := b1.cell 4
    have fz : W.frozen? ⟨a, 4, none⟩ = false := b1.frozen 4
    obtain ⟨q, cap, hv, _⟩ := o1.lst
    subst hv
    unfold maxLen at hle
    have HA : Hid (∀ ty, ∃ v' w', (Builtin.append_ #[33, 33] ty #[.slice q l.length cap, .slice (some ⟨W.heap.size, 0, none⟩) 1 1]).run Try.prog (W.alloc (.cells #[.int .i64 x] 3)) = .ok v' w' ∧ Jn (W.alloc (.cells #[.int .i64 x] 3)) (.slice q l.length cap) (l ++ [x]) v' w') := fun ty => app_own (o1.below (below1 _ _)) (lst_new W [x] 1) (by simp; omega) ty
    have HB1 : Hid (Blk W a 50 [.int .i64 y.k, .int .i64 y.id, .slice y.ao y.T.length y.cap, .bool y.rest, .slice q l.length cap]) := b1
    have HN : Hid (∀ g, (Value.slice q l.length cap).ownBlock = some g → B ≤ g) := n1
    have HBS : Hid (Bs B0 W y.ao y.T) := bs1
    -- what holds behind the note
    have FIN : Hid (∀ v2 w2, Jn (W.alloc (.cells #[.int .i64 x] 3)) (.slice q l.length cap) (l ++ [x]) v2 w2 → Blk w2 a 50 [.int .i64 y.k, .int .i64 y.id, .slice y.ao y.T.length y.cap, .bool y.rest, .slice q l.length cap] ∧ Below B0 W (w2.setCell ⟨a, 4, none⟩ v2) ∧ Ak B0 B a y (w2.setCell ⟨a, 4, none⟩ v2) (l ++ [x]) ∧ Ch (fun k => k = a ∨ B ≤ k) W (w2.setCell ⟨a, 4, none⟩ v2)) := fun v2 w2 hj => by
      have c1 : Ch (fun k => B ≤ k) W w2 := (Ch.below (below1 W _)).same (Ch.grown hj.2.1 (fun g hg => HN.out g hg))
      have b2 := HB1.out.ch c1 (by omega)
      have c2 : Ch (fun k => k = a ∨ B ≤ k) W (w2.setCell ⟨a, 4, none⟩ v2) := c1.trans (Ch.grown (grown_setCell' w2 a 4 v2) (fun g hg => (by cases hg; rfl : g = a)) : Ch (fun k => k = a) _ _) (fun i qi => Or.inr qi) (fun i qi => Or.inl (Or.inl qi))
      have hsz : W.heap.size ≤ (W.alloc (.cells #[.int .i64 x] 3)).heap.size := (below1 W _).size
      have hvn : ∀ g, v2.ownBlock = some g → B ≤ g := fun g hg => (hj.2.2 g hg).elim (HN.out g) (fun z => by omega)
      have bel : Below B0 W (w2.setCell ⟨a, 4, none⟩ v2) := c2.to (by omega) (fun i qi => by rcases qi with qi | qi <;> omega)
      refine ⟨b2, bel, ⟨⟨v2, b2.set 4 v2, ?_, hvn⟩, HBS.out.below bel⟩, c2⟩
      exact hj.1.of_eq (fun g hg => (grown_setCell' w2 a 4 v2).block g (hj.1.lt g hg) (some_ne (by have := hvn g hg; omega)))
    have hlx : (l ++ [x]).length = l.length + 1 := by simp
    by_cases hlt : l.length < y.T.length
    · obtain ⟨bb, off, hao, hbb, cs⟩ := bs1 l.length hlt
      have HT : Hid ((tell y.T y.rest l x).1 = y.T.getD l.length false) := by
        unfold Hid
        rw [tell_at hlt, List.getD_eq_getElem?_getD, List.getElem?_eq_getElem hlt]
        rfl
      rw [HT.out]
      have hab : ¬ a = bb := by omega
      rw [hao] at k2 FIN
      clear b1 o1 n1 bs1 HT HB1 HBS
      generalize y.T.getD l.length false = t at *
      generalize y.T.length = m at *
      generalize hln : l.length = n at *
      go_enter Try.func21, Try.ntmps21
      go_wp2_with (at_builtin; refine wpList_app rfl (.tmp 15) (.tmp 17) rfl _ _ rfl rfl (HA.out _) ?_; rintro v2 w2 hj; obtain ⟨q2, c2, hv2, _⟩ := hj.1.lst; rw [hlx] at hv2; subst hv2; have HJ : Hid _ := FIN.out _ w2 hj; have g2 : w2.cell? ⟨a, 2, none⟩ = some (.slice (some ⟨bb, off, none⟩) m y.cap) := HJ.out.1.cell 2; have g4 : w2.cell? ⟨a, 4, none⟩ = some (.slice q n cap) := HJ.out.1.cell 4; have z4 : w2.frozen? ⟨a, 4, none⟩ = false := HJ.out.1.frozen 4; have ct : (w2.setCell ⟨a, 4, none⟩ (.slice q2 (n + 1) c2)).cell? ⟨bb, off + n, none⟩ = some (.bool t) := (World.cell?_of_block (w := W) (a := ⟨bb, off + n, none⟩) (HJ.out.2.1.block bb hbb)).trans cs; clear hj)
      go_ret
      exact ⟨rfl, HJ.out.2.2.1, HJ.out.2.2.2⟩
    · have HT : Hid ((tell y.T y.rest l x).1 = y.rest) := tell_end (by omega)
      rw [HT.out]
      clear b1 o1 n1 bs1 HT HB1 HBS
      generalize hm : y.T.length = m at *
      clear hm
      generalize hln : l.length = n at *
      go_enter Try.func21, Try.ntmps21
      go_wp2_with (at_builtin; refine wpList_app rfl (.tmp 15) (.tmp 17) rfl _ _ rfl rfl (HA.out _) ?_; rintro v2 w2 hj; obtain ⟨q2, c2, hv2, _⟩ := hj.1.lst; rw [hlx] at hv2; subst hv2; have HJ : Hid _ := FIN.out _ w2 hj; have g2 : w2.cell? ⟨a, 2, none⟩ = some (.slice y.ao m y.cap) := HJ.out.1.cell 2; have g3 : w2.cell? ⟨a, 3, none⟩ = some (.bool y.rest) := HJ.out.1.cell 3; have g4 : w2.cell? ⟨a, 4, none⟩ = some (.slice q n cap) := HJ.out.1.cell 4; have z4 : w2.frozen? ⟨a, 4, none⟩ = false := HJ.out.1.frozen 4; clear hj)
      go_ret
      exact ⟨rfl, HJ.out.2.2.1, HJ.out.2.2.2⟩
end Go.Proofs.Ytimeoinmepfpnaa.Ri
