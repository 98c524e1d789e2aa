/- What open of the document's slab leaves: a frame more, in its place; no condition but those that each theorem names. -/
import Derived.Test.YtdempgjhjcjklaaGreatVYp
import Derived.Test.YtdempgjhjcjklaaGreatVXb
namespace Go.Proofs.YtdempgjhjcjklaaGreat.P
open B Go.ChangeShapes Go.WideShapes Go.ChangeAt Go.RowKit
set_option linter.unusedVariables false
set_option maxRecDepth 8192

theorem Lo.fr {w wr : World} {u : Nat} {A B : List Nat} {rb : Nat → Nat} {vF vL : Value} {nb : Option Nat} (h : Lo w wr u A B rb vF vL nb) {n : Nat} (hn : A.length = n) : wr.ownsRow w.heap.size 3 1 vF n (tv (ints A)) := by
  have := h.f
  unfold Is at this
  rw [ints_len, hn] at this
  exact this
theorem Lo.lr {w wr : World} {u : Nat} {A B : List Nat} {rb : Nat → Nat} {vF vL : Value} {nb : Option Nat} (h : Lo w wr u A B rb vF vL nb) {n : Nat} (hn : B.length = n) : wr.ownsRow w.heap.size 137 1 vL n (rws u rb B) := by
  rw [← hn]
  exact h.l
theorem Lo.fnext {w wr w' : World} {u : Nat} {A B : List Nat} {rb : Nat → Nat} {vF vL : Value} {nb : Option Nat} (h : Lo w wr u A B rb vF vL nb) {n : Nat} (hn : A.length = n) {g c x : Nat} (gr : wr.grownBy w' vF.ownBlock) (oa : w'.ownsRow w.heap.size 3 1 (.slice (some ⟨g, 0, none⟩) (n + 1) c) (n + 1) (tv (ints A) ++ [.int .i64 x])) (hv : vF.ownBlock = some g ∨ wr.heap.size ≤ g) : Lo w w' u (A ++ [x]) B rb (.slice (some ⟨g, 0, none⟩) (n + 1) c) vL nb := by
  refine h.fapp gr ?_ hv
  unfold Is
  rw [ints_len, List.length_append, hn, show tv (ints (A ++ [x])) = tv (ints A) ++ [.int .i64 x] by simp [tv, ints]]
  exact oa
theorem Lo.lnext {w wr w' : World} {u : Nat} {A B : List Nat} {rb : Nat → Nat} {vF vL : Value} {nb : Option Nat} (h : Lo w wr u A B rb vF vL nb) {n : Nat} (hn : B.length = n) {g c x : Nat} (gr : wr.grownBy w' vL.ownBlock) (oa : w'.ownsRow w.heap.size 137 1 (.slice (some ⟨g, 0, none⟩) (n + 1) c) (n + 1) (rws u rb B ++ [.slice (some ⟨rb x, 0, none⟩) (pn u) (pn u)])) (hv : vL.ownBlock = some g ∨ wr.heap.size ≤ g) : Lo w w' u A (B ++ [x]) rb vF (.slice (some ⟨g, 0, none⟩) (n + 1) c) nb := h.lapp gr (by rw [hn]; exact oa) hv
theorem sn_len {A : List Nat} {n : Nat} (h : A.length = n) (x : Nat) : (A ++ [x]).length = n + 1 := by simp [h]
theorem Sr.reopen {w wr : World} {s q u : Nat} {vf vl vF vL : Value} {rb rb' : Nat → Nat} {fs A : List Nat} {mk : Ms} {nb : Option Nat} {f : Nat} (h : Sr w s q u vf vl rb fs mk) (hL : Lo w wr u A A rb' vF vL nb) (ha : A.Pairwise (· < ·)) (h4 : ∀ x ∈ A, x < 4096) (hr : ∀ g ∈ A, (g ∈ fs ∧ rb' g = rb g) ∨ (g = f ∧ nb = some (rb' g) ∧ mk g = 0)) (hz : ∀ g, g ∉ A → mk g = 0) :
    Sr ((wr.setCell ⟨s, 2, none⟩ vF).setCell ⟨s, 3, none⟩ vL) s q u vF vL rb' A mk ∧ Kp (sft s vf vl rb fs) (sft s vF vL rb' A) w ((wr.setCell ⟨s, 2, none⟩ vF).setCell ⟨s, 3, none⟩ vL) := by
  have h1 := h.below hL.be
  have G := (grown_setCell' wr s 2 vF).trans (grown_setCell' (wr.setCell ⟨s, 2, none⟩ vF) s 3 vL)
  have hs := h.lt
  have hsw := hL.be.size
  have ne : ∀ x, x ≠ s → x < wr.heap.size → ((wr.setCell ⟨s, 2, none⟩ vF).setCell ⟨s, 3, none⟩ vL).heap[x]? = wr.heap[x]? := fun x hx hl => G.block x hl (some_ne hx)
  have sz' : ((wr.setCell ⟨s, 2, none⟩ vF).setCell ⟨s, 3, none⟩ vL).heap.size = wr.heap.size := by simp [World.setCell]
  have far : ∀ x, w.heap.size ≤ x → x ≠ s := fun x hx e => by omega
  have hfb := fun x hx => (hL.f.lt x hx)
  have hlb := fun x hx => (row_lt0 hL.l x hx)
  have old : ∀ g ∈ fs, rb g < w.heap.size := fun g hg => (h.bl g hg).lt
  have kp : ∀ g ∈ A, rb' g ≠ s ∧ vF.ownBlock ≠ some (rb' g) ∧ vL.ownBlock ≠ some (rb' g) := fun g hg => by
    rcases hr g hg with ⟨q1, q2⟩ | ⟨_, q2, _⟩
    · rw [q2]
      have := old g q1
      refine ⟨(h.n4 g q1).1, fun e => ?_, fun e => ?_⟩
      · have := (hfb _ e).1; omega
      · have := (hlb _ e).1; omega
    · obtain ⟨n1, n2, n3, n4⟩ := hL.n _ q2
      exact ⟨far _ n2, n3, n4⟩
  refine ⟨⟨h.u4, by rw [sz']; omega, fun i => by rw [World.frozen?_setCell, World.frozen?_setCell]; exact h1.fz i, ?_, ?_, ?_, ?_, ?_, ?_, ?_, ha, h4, h.ml, hz, ?_, ?_, hL.d, kp, ?_⟩, ?_⟩
  · rw [World.cell?_setCell_other _ _ _ _ (by intro e; cases e), World.cell?_setCell_other _ _ _ _ (by intro e; cases e)]; exact h1.c0
  · rw [World.cell?_setCell_other _ _ _ _ (by intro e; cases e), World.cell?_setCell_other _ _ _ _ (by intro e; cases e)]; exact h1.c1
  · rw [World.cell?_setCell_other _ _ _ _ (by intro e; cases e), World.cell?_setCell_same _ _ _ h1.c2]
  · rw [World.cell?_setCell_same _ _ _ (show (wr.setCell ⟨s, 2, none⟩ vF).cell? ⟨s, 3, none⟩ = some vl by rw [World.cell?_setCell_other _ _ _ _ (by intro e; cases e)]; exact h1.c3)]
  · exact hL.f.own.of_eq (fun x hx => ne x (far x (hfb x hx).1) (hfb x hx).2)
  · exact rw_of_eq (own_less hL.l) (fun x hx => ne x (far x (hlb x hx).1) (hlb x hx).2)
  · intro g hg
    rcases hr g hg with ⟨q1, q2⟩ | ⟨_, q2, q3⟩
    · rw [q2]
      exact (h1.bl g q1).of_eq (ne _ (h.n4 g q1).1 (h1.bl g q1).lt)
    · obtain ⟨n1, n2, n3, n4⟩ := hL.n _ q2
      rw [q3]
      exact n1.of_eq (ne _ (far _ n2) n1.lt)
  · exact fun e => far s (hfb s e).1 rfl
  · exact fun e => far s (hlb s e).1 rfl
  · intro g g' hg hg' e
    rcases hr g hg with ⟨q1, q2⟩ | ⟨q1, q2, _⟩
    · rcases hr g' hg' with ⟨q1', q2'⟩ | ⟨_, q2', _⟩
      · exact h.n5 g g' q1 q1' (by rw [← q2, ← q2', e])
      · have := (hL.n _ q2').2.1
        have := old g q1
        omega
    · rcases hr g' hg' with ⟨q1', q2'⟩ | ⟨q1', _, _⟩
      · have := (hL.n _ q2).2.1
        have := old g' q1'
        omega
      · omega
  · refine ⟨G.os.trans hL.be.os, G.tape.trans hL.be.tape, G.output.trans hL.be.output, by rw [sz']; exact hsw, fun x hx hn => ?_, ?_⟩
    · exact (ne x (fun e => hn (Or.inl e)) (by omega)).trans (hL.be.block x hx)
    · rintro x (e | e | e | ⟨g, hg, rfl⟩)
      · exact Or.inl (Or.inl e)
      · exact Or.inr (hfb x e).1
      · exact Or.inr (hlb x e).1
      · rcases hr g hg with ⟨q1, q2⟩ | ⟨_, q2, _⟩
        · exact Or.inl (Or.inr (Or.inr (Or.inr ⟨g, q1, q2.symm⟩)))
        · exact Or.inr (hL.n _ q2).2.1
def Rk (f : Nat) (fs : List Nat) (rb rb' : Nat → Nat) (b : Bool) (nb : Option Nat) : Prop := (∀ g ∈ fs, rb' g = rb g) ∧ (b = true → nb = some (rb' f)) ∧ (b = false → nb = none)
theorem ins_not {f : Nat} {fs A : List Nat} {i : Nat} (h : Ins f fs i false A) : f ∉ A := fun e => by have := (h.1 rfl).2 f e; omega
set_option maxHeartbeats 4000000 in
theorem ropen_s {w : World} {s q u : Nat} {vf vl : Value} {rb : Nat → Nat} {fs : List Nat} {mk : Ms} (h : Sr w s q u vf vl rb fs mk) (f : Nat) (hf : f ∉ fs) (hf4 : f < 4096) : Calls Tryz.prog 71 #[.pointer (some ⟨s, 0, none⟩), .int .i64 f] w fun e w' => e = .returned (.tuple #[]) ∧ ∃ vf' vl' rb' fs', Sr w' s q u vf' vl' rb' fs' mk ∧ (∀ x, x ∈ fs' ↔ x = f ∨ x ∈ fs) ∧ Kp (sft s vf vl rb fs) (sft s vf' vl' rb' fs') w w' := by
  obtain ⟨fa, fc, rfl⟩ := h.vf
  obtain ⟨la, lc, rfl⟩ := h.vl
  have HS : Hid (Sr w s q u (.slice fa fs.length fc) (.slice la fs.length lc) rb fs mk) := h
  have HNF : Hid (f ∉ fs) := hf
  have HAS : Hid (fs.Pairwise (· < ·)) := h.asc
  have hlen := h.len
  obtain ⟨n, hn⟩ : ∃ n, fs.length = n := ⟨_, rfl⟩
  have HNl : Hid (fs.length = n) := hn
  have HD : Hid (∀ W, Below w.heap.size w W → W.cell? ⟨s, 1, none⟩ = some (.int .u8 u) ∧ W.cell? ⟨s, 2, none⟩ = some (.slice fa n fc) ∧ W.cell? ⟨s, 3, none⟩ = some (.slice la n lc)) := fun W hW => by
    rw [← hn]
    exact ⟨(h.below hW).c1, (h.below hW).c2, (h.below hW).c3⟩
  have CS : Hid (∀ W, Calls Tryz.prog 64 #[.int .u8 u] W fun e w' => e = .returned (.int .i64 (sz u : Nat)) ∧ w' = W) := rSize_ok h.u4
  obtain ⟨mkw, m6, HMK⟩ : ∃ mkw : World → World, (∀ w, (Instr.makeSlice 137 (.int .i64 (pn u : Nat)) (.int .i64 (pn u : Nat))).run Tryz.prog w = .ok (.slice (some ⟨w.heap.size, 0, none⟩) (pn u) (pn u)) (mkw w)) ∧ Hid (∀ w, mkw w = w.alloc (.cells (bL u 0).toArray 4)) := ⟨_, make_bools h.u4, fun w => rfl⟩
  have q1' : (256 : Int) / (sz u : Int) = (pn u : Int) := by rcases use3 h.u4 with rfl | rfl | rfl <;> rfl
  have q2' : (256 : Int).tdiv (sz u : Int) = (pn u : Int) := by rcases use3 h.u4 with rfl | rfl | rfl <;> rfl
  have hsz := sz_le u
  have hpn := pn_le u
  have hz0 : ¬ (sz u : Int) = 0 := by omega
  have HZF : Hid (mk f = 0) := h.z f hf
  have HF4 : Hid (∀ x ∈ fs, x < 4096) := h.f4
  obtain ⟨j0, hj0, hy0, hy1, hy2⟩ := info_parts B.Tryz.infoI
  obtain ⟨l0, hl0, hx0, hx1, hx2⟩ := info_parts Tryz.infoBs
  rw [hn] at hlen
  clear h hf hn
  go_enter Tryz.func71, Tryz.ntmps71
  go_wp2
  go_loopw [4, 5, 6, 7] (fun vF vL b z wr => ∃ (i : Nat) (bb : Bool) (A : List Nat) (rb' : Nat → Nat) (nb : Option Nat) (vF' vL' : Value), z = .int .i64 i ∧ b = .bool bb ∧ vF' = vF ∧ vL' = vL ∧ i ≤ n ∧ Ins f fs i bb A ∧ Lo w wr u A A rb' vF' vL' nb ∧ Rk f fs rb rb' bb nb) (fun _ _ _ z _ => n - (B.iv z).toNat)
  case atStart => exact ⟨0, false, [], rb, none, _, _, rfl, rfl, rfl, rfl, by omega, ins_start _ _, lo_start _ _ _, ⟨fun g _ => rfl, (fun z => by cases z), fun _ => rfl⟩⟩
  case round =>
    obtain ⟨i, bb, A, rb', nb, vF, vL, rfl, rfl, hvF, hvL, hi, hI, hL, hR⟩ := hrel
    subst hvF hvL
    have HI : Hid (Ins f fs i bb A) := hI
    have HL : Hid (Lo w wr u A A rb' vF vL nb) := hL
    have HR : Hid (Rk f fs rb rb' bb nb) := hR
    have hal := ins_len hI HAS.out HF4.out hf4
    obtain ⟨a0, ha0⟩ : ∃ a0, A.length = a0 := ⟨_, rfl⟩
    have HA0 : Hid (A.length = a0) := ha0
    rw [ha0] at hal
    clear hI hL hR ha0
    by_cases hlt : i < n
    · have hltI : (i : Int) < (n : Int) := by omega
      obtain ⟨y, hy⟩ : ∃ y, fs[i]? = some y := ⟨_, List.getElem?_eq_getElem (by rw [HNl.out]; exact hlt)⟩
      have HY : Hid (fs[i]? = some y) := hy
      have hy4 := HF4.out y (List.mem_of_getElem? hy)
      have hyf : y ≠ f := fun e => HNF.out (e ▸ List.mem_of_getElem? hy)
      have HYF : Hid (y ≠ f) := hyf
      obtain ⟨fb, rfl, hcf⟩ := HS.out.fat hy
      obtain ⟨lb, rfl, hcl⟩ := HS.out.lat hy
      have HC : Hid (∀ W, Below w.heap.size w W → W.cell? ⟨s, 1, none⟩ = some (.int .u8 u) ∧ W.cell? ⟨s, 2, none⟩ = some (.slice (some ⟨fb, 0, none⟩) n fc) ∧ W.cell? ⟨s, 3, none⟩ = some (.slice (some ⟨lb, 0, none⟩) n lc) ∧ W.cell? ⟨fb, i, none⟩ = some (.int .i64 y) ∧ W.cell? ⟨lb, i, none⟩ = some (.slice (some ⟨rb y, 0, none⟩) (pn u) (pn u))) := fun W hW => by
        obtain ⟨p1, p2, p3⟩ := HD.out W hW
        exact ⟨p1, p2, p3, (hW.cell (p := ⟨fb, i, none⟩) (HS.out.of.lt fb rfl)).trans hcf, (hW.cell (p := ⟨lb, i, none⟩) (rw_lt HS.out.ol lb rfl)).trans hcl⟩
      have HRY : Hid (rb' y = rb y) := HR.out.1 y (List.mem_of_getElem? hy)
      clear hy hcf hcl hyf
      cases bb with
      | true =>
        obtain ⟨d1, d2, d3, d4, d5⟩ := HC.out _ HL.out.be
        go_wp2_with (first
          | (at_builtin; refine wpList_append_lies _ rfl (.tmp 44) (.tmp 52) 25 rfl w.heap.size 3 j0 _ 1 8 Tryz.underlying25 hj0 hy0 hy1 hy2 rfl (by decide) vF (a0) (tv (ints (A))) rfl (World.ownsRow.alloc (HL.out.fr HA0.out) _) ⟨wr.heap.size, 0, none⟩ 1 1 [.int .i64 (y : Nat)] rfl rfl (cell_one_new _ _ _) (by intro u hu; simp at hu; subst hu; rfl) (by omega) (by unfold maxLen; omega) (by omega) (by simp; have := HL.out.be.size; omega) (wr.heap.size + 1) (by simp) ?_; intro gF kF wF oa gra ata lta; have HF : Hid (Lo w wF u (A ++ [y]) _ _ (.slice (some ⟨gF, 0, none⟩) (a0 + 1) kF) _ _) := HL.out.fnext HA0.out ((World.grownBy_alloc _ _ _).trans gra) oa (ata.imp id (fun z => by omega)); clear oa gra ata lta; clear d1 d2 d3 d4 d5; obtain ⟨d1, d2, d3, d4, d5⟩ := HC.out _ HF.out.be)
          | (at_builtin; refine wpList_append_lies _ rfl (.tmp 54) (.tmp 62) 122 rfl w.heap.size 137 l0 _ 1 24 Tryz.underlying122 hl0 hx0 hx1 hx2 rfl (by decide) vL (a0) (rws u rb' (A)) rfl (World.ownsRow.alloc (HF.out.lr HA0.out) _) ⟨(wF).heap.size, 0, none⟩ 1 1 [.slice (some ⟨rb y, 0, none⟩) (pn u) (pn u)] rfl rfl (cell_one_new _ _ _) (by intro u hu; simp at hu; subst hu; rfl) (by omega) (by unfold maxLen; omega) (by omega) (by simp; have := HF.out.be.size; omega) ((wF).heap.size + 1) (by simp) ?_; intro gN kN wN oa gra ata lta; have HN : Hid (Lo w wN u (A ++ [y]) ((A) ++ [y]) rb' (.slice (some ⟨gF, 0, none⟩) (a0 + 1) kF) (.slice (some ⟨gN, 0, none⟩) (a0 + 1) kN) nb) := HF.out.lnext HA0.out ((World.grownBy_alloc _ _ _).trans gra) (by rw [HRY.out]; exact oa) (ata.imp id (fun z => by omega)); clear oa gra ata lta)
          )
        go_roundw
        case rel => exact ⟨i + 1, true, A ++ [y], rb', nb, _, _, by go_num, rfl, rfl, rfl, by omega, ins_more HI.out HAS.out HY.out, HN.out, HR.out⟩
        case measure => simp [B.iv]; omega
      | false =>
        obtain rfl : nb = none := HR.out.2.2 rfl
        by_cases hfy : f < y
        · have hfyI : (f : Int) < (y : Int) := by omega
          obtain ⟨d1, d2, d3, d4, d5⟩ := HC.out _ HL.out.be
          go_wp2_with (first
            | (at_builtin; refine wpList_append_lies _ rfl (.tmp 30) (.tmp 32) 25 rfl w.heap.size 3 j0 _ 1 8 Tryz.underlying25 hj0 hy0 hy1 hy2 rfl (by decide) vF (a0) (tv (ints (A))) rfl (World.ownsRow.alloc (HL.out.fr HA0.out) _) ⟨wr.heap.size, 0, none⟩ 1 1 [.int .i64 (f : Nat)] rfl rfl (cell_one_new _ _ _) (by intro u hu; simp at hu; subst hu; rfl) (by omega) (by unfold maxLen; omega) (by omega) (by simp; have := HL.out.be.size; omega) (wr.heap.size + 1) (by simp) ?_; intro gF kF wF oa gra ata lta; have HF : Hid (Lo w wF u (A ++ [f]) _ _ (.slice (some ⟨gF, 0, none⟩) (a0 + 1) kF) _ _) := HL.out.fnext HA0.out ((World.grownBy_alloc _ _ _).trans gra) oa (ata.imp id (fun z => by omega)); clear oa gra ata lta; clear d1 d2 d3 d4 d5; obtain ⟨d1, d2, d3, d4, d5⟩ := HC.out _ HF.out.be)
            | (go_at_call 64; refine (CS.out _).mono ?_; rintro e wz ⟨rfl, hw⟩; obtain rfl := hw.symm; clear hw; have HPY : Hid (put rb' f wF.heap.size y = rb y) := (by show put rb' f wF.heap.size y = rb y; rw [put_other _ _ _ _ HYF.out]; exact HR.out.1 y (List.mem_of_getElem? HY.out)); have HM : Hid (Lo w (mkw wF) u (A ++ [f]) (A) (put rb' f wF.heap.size) (.slice (some ⟨gF, 0, none⟩) (a0 + 1) kF) vL (some wF.heap.size)) := (by rw [HMK.out]; exact HF.out.make (ins_not HI.out)))
            | (at_builtin; refine wpList_append_lies _ rfl (.tmp 34) (.tmp 42) 122 rfl w.heap.size 137 l0 _ 1 24 Tryz.underlying122 hl0 hx0 hx1 hx2 rfl (by decide) vL (a0) (rws u (put rb' f wF.heap.size) (A)) rfl (World.ownsRow.alloc (HM.out.lr HA0.out) _) ⟨(mkw wF).heap.size, 0, none⟩ 1 1 [.slice (some ⟨wF.heap.size, 0, none⟩) (pn u) (pn u)] rfl rfl (cell_one_new _ _ _) (by intro u hu; simp at hu; subst hu; rfl) (by omega) (by unfold maxLen; omega) (by omega) (by simp; have := HM.out.be.size; omega) ((mkw wF).heap.size + 1) (by simp) ?_; intro gL2 kL2 wL2 oa gra ata lta; have HL2 : Hid (Lo w wL2 u (A ++ [f]) ((A) ++ [f]) (put rb' f wF.heap.size) (.slice (some ⟨gF, 0, none⟩) (a0 + 1) kF) (.slice (some ⟨gL2, 0, none⟩) (a0 + 1) kL2) (some wF.heap.size)) := HM.out.lnext HA0.out ((World.grownBy_alloc _ _ _).trans gra) (by rw [put_same]; exact oa) (ata.imp id (fun z => by omega)); clear oa gra ata lta; clear d1 d2 d3 d4 d5; obtain ⟨d1, d2, d3, d4, d5⟩ := HC.out _ HL2.out.be)
            | (at_builtin; refine wpList_append_lies _ rfl (.tmp 44) (.tmp 52) 25 rfl w.heap.size 3 j0 _ 1 8 Tryz.underlying25 hj0 hy0 hy1 hy2 rfl (by decide) (.slice (some ⟨gF, 0, none⟩) (a0 + 1) kF) (a0 + 1) (tv (ints (A ++ [f]))) rfl (World.ownsRow.alloc (HL2.out.fr (sn_len HA0.out f)) _) ⟨wL2.heap.size, 0, none⟩ 1 1 [.int .i64 (y : Nat)] rfl rfl (cell_one_new _ _ _) (by intro u hu; simp at hu; subst hu; rfl) (by omega) (by unfold maxLen; omega) (by omega) (by simp; have := HL2.out.be.size; omega) (wL2.heap.size + 1) (by simp) ?_; intro gG kG wG oa gra ata lta; have HG : Hid (Lo w wG u (A ++ [f] ++ [y]) _ _ (.slice (some ⟨gG, 0, none⟩) (a0 + 1 + 1) kG) _ _) := HL2.out.fnext (sn_len HA0.out f) ((World.grownBy_alloc _ _ _).trans gra) oa (ata.imp id (fun z => by omega)); clear oa gra ata lta; clear d1 d2 d3 d4 d5; obtain ⟨d1, d2, d3, d4, d5⟩ := HC.out _ HG.out.be)
            | (at_builtin; refine wpList_append_lies _ rfl (.tmp 54) (.tmp 62) 122 rfl w.heap.size 137 l0 _ 1 24 Tryz.underlying122 hl0 hx0 hx1 hx2 rfl (by decide) (.slice (some ⟨gL2, 0, none⟩) (a0 + 1) kL2) (a0 + 1) (rws u (put rb' f wF.heap.size) (A ++ [f])) rfl (World.ownsRow.alloc (HG.out.lr (sn_len HA0.out f)) _) ⟨(wG).heap.size, 0, none⟩ 1 1 [.slice (some ⟨rb y, 0, none⟩) (pn u) (pn u)] rfl rfl (cell_one_new _ _ _) (by intro u hu; simp at hu; subst hu; rfl) (by omega) (by unfold maxLen; omega) (by omega) (by simp; have := HG.out.be.size; omega) ((wG).heap.size + 1) (by simp) ?_; intro gN kN wN oa gra ata lta; have HN : Hid (Lo w wN u (A ++ [f] ++ [y]) ((A ++ [f]) ++ [y]) (put rb' f wF.heap.size) (.slice (some ⟨gG, 0, none⟩) (a0 + 1 + 1) kG) (.slice (some ⟨gN, 0, none⟩) (a0 + 1 + 1) kN) (some wF.heap.size)) := HG.out.lnext (sn_len HA0.out f) ((World.grownBy_alloc _ _ _).trans gra) (by rw [HPY.out]; exact oa) (ata.imp id (fun z => by omega)); clear oa gra ata lta)
            )
          go_roundw
          case rel => exact ⟨i + 1, true, A ++ [f] ++ [y], put rb' f wF.heap.size, some wF.heap.size, _, _, by go_num, rfl, rfl, rfl, by omega, ins_here HI.out HAS.out HY.out hfy, HN.out, ⟨fun g hg => by rw [put_other _ _ _ _ (fun e => HNF.out (by rw [← e]; exact hg))]; exact HR.out.1 g hg, (fun _ => by rw [put_same]), (fun z => by cases z)⟩⟩
          case measure => simp [B.iv]; omega
        · have hyf : y < f := by have := HYF.out; omega
          have hfyI : ¬ (f : Int) < (y : Int) := by omega
          obtain ⟨d1, d2, d3, d4, d5⟩ := HC.out _ HL.out.be
          go_wp2_with (first
            | (at_builtin; refine wpList_append_lies _ rfl (.tmp 44) (.tmp 52) 25 rfl w.heap.size 3 j0 _ 1 8 Tryz.underlying25 hj0 hy0 hy1 hy2 rfl (by decide) vF (a0) (tv (ints (A))) rfl (World.ownsRow.alloc (HL.out.fr HA0.out) _) ⟨wr.heap.size, 0, none⟩ 1 1 [.int .i64 (y : Nat)] rfl rfl (cell_one_new _ _ _) (by intro u hu; simp at hu; subst hu; rfl) (by omega) (by unfold maxLen; omega) (by omega) (by simp; have := HL.out.be.size; omega) (wr.heap.size + 1) (by simp) ?_; intro gF kF wF oa gra ata lta; have HF : Hid (Lo w wF u (A ++ [y]) _ _ (.slice (some ⟨gF, 0, none⟩) (a0 + 1) kF) _ _) := HL.out.fnext HA0.out ((World.grownBy_alloc _ _ _).trans gra) oa (ata.imp id (fun z => by omega)); clear oa gra ata lta; clear d1 d2 d3 d4 d5; obtain ⟨d1, d2, d3, d4, d5⟩ := HC.out _ HF.out.be)
            | (at_builtin; refine wpList_append_lies _ rfl (.tmp 54) (.tmp 62) 122 rfl w.heap.size 137 l0 _ 1 24 Tryz.underlying122 hl0 hx0 hx1 hx2 rfl (by decide) vL (a0) (rws u rb' (A)) rfl (World.ownsRow.alloc (HF.out.lr HA0.out) _) ⟨(wF).heap.size, 0, none⟩ 1 1 [.slice (some ⟨rb y, 0, none⟩) (pn u) (pn u)] rfl rfl (cell_one_new _ _ _) (by intro u hu; simp at hu; subst hu; rfl) (by omega) (by unfold maxLen; omega) (by omega) (by simp; have := HF.out.be.size; omega) ((wF).heap.size + 1) (by simp) ?_; intro gN kN wN oa gra ata lta; have HN : Hid (Lo w wN u (A ++ [y]) ((A) ++ [y]) rb' (.slice (some ⟨gF, 0, none⟩) (a0 + 1) kF) (.slice (some ⟨gN, 0, none⟩) (a0 + 1) kN) none) := HF.out.lnext HA0.out ((World.grownBy_alloc _ _ _).trans gra) (by rw [HRY.out]; exact oa) (ata.imp id (fun z => by omega)); clear oa gra ata lta)
            )
          go_roundw
          case rel => exact ⟨i + 1, false, A ++ [y], rb', none, _, _, by go_num, rfl, rfl, rfl, by omega, ins_lt HI.out HY.out hyf, HN.out, HR.out⟩
          case measure => simp [B.iv]; omega
    · obtain rfl : i = n := by omega
      have hltI : ¬ (i : Int) < (i : Int) := by omega
      cases bb with
      | true =>
        obtain ⟨m1, m2⟩ := ins_t (by rw [HNl.out]; exact HI.out)
        have HFN := fun v1 v2 (hL : Lo w wr u A A rb' v1 v2 nb) => HS.out.reopen (f := f) hL m1 (fun x hx => by
          rcases (m2 x).1 hx with e | e
          · omega
          · exact HF4.out x e) (fun g hg => by
          rcases (m2 g).1 hg with e | e
          · exact Or.inr ⟨e, by rw [e]; exact HR.out.2.1 rfl, by rw [e]; exact HZF.out⟩
          · exact Or.inl ⟨e, HR.out.1 g e⟩) (fun g hg => HS.out.z g (fun e => hg ((m2 g).2 (Or.inr e))))
        obtain ⟨a1, c1, e1⟩ := HL.out.f.own.len
        obtain ⟨a2, c2, e2⟩ := row_len HL.out.l
        subst e1 e2
        have HFI : Hid (_ ∧ _) := HFN _ _ HL.out
        have HME : Hid (∀ x, x ∈ A ↔ x = f ∨ x ∈ fs) := m2
        have HLb : Hid (Below w.heap.size w wr) := HL.out.be
        have HFZ : Hid (∀ i, wr.frozen? ⟨s, i, none⟩ = false) := (HS.out.below HL.out.be).fz
        have z2 := HFZ.out 2
        have z3 := HFZ.out 3
        obtain ⟨d1, d2, d3⟩ := HD.out _ HL.out.be
        clear m1 m2 HFN HL
        go_wp2
        go_end0
        exact ⟨rfl, _, _, _, _, HFI.out.1, HME.out, HFI.out.2⟩
      | false =>
        obtain rfl : nb = none := HR.out.2.2 rfl
        obtain ⟨m1, m2⟩ := ins_f (by rw [HNl.out]; exact HI.out) HAS.out
        have HM1 : Hid ((A ++ [f]).Pairwise (· < ·)) := m1
        have HM2 : Hid (∀ x, x ∈ A ++ [f] ↔ x = f ∨ x ∈ fs) := m2
        clear m1 m2
        obtain ⟨d1, d2, d3⟩ := HD.out _ HL.out.be
        go_wp2_with (first
          | (at_builtin; refine wpList_append_lies _ rfl (.tmp 66) (.tmp 68) 25 rfl w.heap.size 3 j0 _ 1 8 Tryz.underlying25 hj0 hy0 hy1 hy2 rfl (by decide) vF (a0) (tv (ints (A))) rfl (World.ownsRow.alloc (HL.out.fr HA0.out) _) ⟨wr.heap.size, 0, none⟩ 1 1 [.int .i64 (f : Nat)] rfl rfl (cell_one_new _ _ _) (by intro u hu; simp at hu; subst hu; rfl) (by omega) (by unfold maxLen; omega) (by omega) (by simp; have := HL.out.be.size; omega) (wr.heap.size + 1) (by simp) ?_; intro gF kF wF oa gra ata lta; have HF : Hid (Lo w wF u (A ++ [f]) _ _ (.slice (some ⟨gF, 0, none⟩) (a0 + 1) kF) _ _) := HL.out.fnext HA0.out ((World.grownBy_alloc _ _ _).trans gra) oa (ata.imp id (fun z => by omega)); clear oa gra ata lta; clear d1 d2 d3; obtain ⟨d1, d2, d3⟩ := HD.out _ HF.out.be)
          | (go_at_call 64; refine (CS.out _).mono ?_; rintro e wz ⟨rfl, hw⟩; obtain rfl := hw.symm; clear hw; have HM : Hid (Lo w (mkw wF) u (A ++ [f]) (A) (put rb' f wF.heap.size) (.slice (some ⟨gF, 0, none⟩) (a0 + 1) kF) vL (some wF.heap.size)) := (by rw [HMK.out]; exact HF.out.make (ins_not HI.out)))
          | (at_builtin; refine wpList_append_lies _ rfl (.tmp 70) (.tmp 78) 122 rfl w.heap.size 137 l0 _ 1 24 Tryz.underlying122 hl0 hx0 hx1 hx2 rfl (by decide) vL (a0) (rws u (put rb' f wF.heap.size) (A)) rfl (World.ownsRow.alloc (HM.out.lr HA0.out) _) ⟨(mkw wF).heap.size, 0, none⟩ 1 1 [.slice (some ⟨wF.heap.size, 0, none⟩) (pn u) (pn u)] rfl rfl (cell_one_new _ _ _) (by intro u hu; simp at hu; subst hu; rfl) (by omega) (by unfold maxLen; omega) (by omega) (by simp; have := HM.out.be.size; omega) ((mkw wF).heap.size + 1) (by simp) ?_; intro gN kN wN oa gra ata lta; have HN : Hid (Lo w wN u (A ++ [f]) ((A) ++ [f]) (put rb' f wF.heap.size) (.slice (some ⟨gF, 0, none⟩) (a0 + 1) kF) (.slice (some ⟨gN, 0, none⟩) (a0 + 1) kN) (some wF.heap.size)) := HM.out.lnext HA0.out ((World.grownBy_alloc _ _ _).trans gra) (by rw [put_same]; exact oa) (ata.imp id (fun z => by omega)); clear oa gra ata lta; clear d1 d2 d3; obtain ⟨d1, d2, d3⟩ := HD.out _ HN.out.be; have z2 := (HS.out.below HN.out.be).fz 2; have z3 := (HS.out.below HN.out.be).fz 3)
          )
        have HFI : Hid (_ ∧ _) := HS.out.reopen (f := f) HN.out HM1.out (fun x hx => by
          rcases (HM2.out x).1 hx with e | e
          · omega
          · exact HF4.out x e) (fun g hg => by
          rcases (HM2.out g).1 hg with e | e
          · exact Or.inr ⟨e, by rw [e, put_same], by rw [e]; exact HZF.out⟩
          · exact Or.inl ⟨e, by rw [put_other _ _ _ _ (fun z => HNF.out (by rw [← z]; exact e))]; exact HR.out.1 g e⟩) (fun g hg => HS.out.z g (fun e => hg ((HM2.out g).2 (Or.inr e))))
        go_end0
        exact ⟨rfl, _, _, _, _, HFI.out.1, HM2.out, HFI.out.2⟩
end Go.Proofs.YtdempgjhjcjklaaGreat.P
namespace Go.Proofs.YtdempgjhjcjklaaGreat.P
open B Go.ChangeShapes Go.WideShapes Go.ChangeAt Go.RowKit
set_option linter.unusedVariables false
set_option maxRecDepth 8192

theorem zero_of {u x : Nat} (hx : x < 2 ^ pn u) (h : ∀ j, j < pn u → x.testBit j = false) : x = 0 := by
  apply Nat.eq_of_testBit_eq
  intro i
  rw [Nat.zero_testBit]
  by_cases hi : i < pn u
  · exact h i hi
  · exact Nat.testBit_lt_two_pow (Nat.lt_of_lt_of_le hx (Nat.pow_le_pow_right (by omega) (by omega)))
theorem kp_both {F G G' : Nat → Prop} {w w1 w2 : World} (h : Kp G G' w w1) (k : Kp F F w1 w2) (hF : ∀ x, F x → x < w.heap.size) : Kp (fun x => F x ∨ G x) (fun x => F x ∨ G' x) w w2 :=
  ⟨k.os.trans h.os, k.tape.trans h.tape, k.output.trans h.output, Nat.le_trans h.size k.size,
   fun x hx hn => (k.block x (Nat.lt_of_lt_of_le hx h.size) (fun z => hn (Or.inl z))).trans (h.block x hx (fun z => hn (Or.inr z))),
   fun x hx => by
    rcases hx with z | z
    · exact Or.inl (Or.inl z)
    · rcases h.new x z with y | y
      · exact Or.inl (Or.inr y)
      · exact Or.inr y⟩
theorem rclose_keep {w : World} {s q u : Nat} {vf vl : Value} {rb : Nat → Nat} {fs : List Nat} {mk : Ms} (h : Sr w s q u vf vl rb fs mk) {i g : Nat} (hg : fs[i]? = some g) (hz : mk g ≠ 0) : Calls Tryz.prog 73 #[.pointer (some ⟨s, 0, none⟩), .int .i64 i] w fun e w' => e = .returned (.int .i64 0) ∧ w' = w := by
  obtain ⟨fa, fc, rfl⟩ := h.vf
  obtain ⟨la, lc, rfl⟩ := h.vl
  obtain ⟨fb, rfl, hcf⟩ := h.fat hg
  obtain ⟨lb, rfl, hcl⟩ := h.lat hg
  have hgm : g ∈ fs := List.mem_of_getElem? hg
  have hil := (List.getElem?_eq_some_iff.1 hg).1
  have c2 := h.c2
  have c3 := h.c3
  have HS : Hid (Sr w s q u (.slice (some ⟨fb, 0, none⟩) fs.length fc) (.slice (some ⟨lb, 0, none⟩) fs.length lc) rb fs mk) := h
  have HG : Hid (fs[i]? = some g) := hg
  have HGM : Hid (g ∈ fs) := hgm
  have hlen := h.len
  have hpn := pn_le u
  obtain ⟨n, hn⟩ : ∃ n, fs.length = n := ⟨_, rfl⟩
  have HNl : Hid (fs.length = n) := hn
  rw [hn] at c2 c3 hlen hil
  have hilI : (i : Int) < (n : Int) := by omega
  obtain ⟨m, hm⟩ : ∃ m, pn u = m := ⟨_, rfl⟩
  have HM : Hid (pn u = m) := hm
  rw [hm] at hpn hcl
  have HZ : Hid (mk g ≠ 0) := hz
  clear h hg hz hgm hn hm
  go_enter Tryz.func73, Tryz.ntmps73
  go_wp2
  go_loop [5] (fun z => ∃ k : Nat, z = .int .i64 k ∧ k ≤ m ∧ ∀ j, j < k → (mk g).testBit j = false) (fun z => m - (B.iv z).toNat)
  case atStart => exact ⟨0, rfl, by omega, fun j hj => by omega⟩
  case round =>
    obtain ⟨k, rfl, hk, hf⟩ := hrel
    have HK : Hid (∀ j, j < k → (mk g).testBit j = false) := hf
    clear hf
    by_cases hkm : k < m
    · have hkI : (k : Int) < (m : Int) := by omega
      have hb := HS.out.bit HGM.out (k := k) (by rw [HM.out]; exact hkm)
      cases hbit : (mk g).testBit k with
      | true =>
        rw [hbit] at hb
        clear hbit
        go_wp2
        go_ret
        exact ⟨rfl, rfl⟩
      | false =>
        rw [hbit] at hb
        have HE : Hid ((mk g).testBit k = false) := hbit
        clear hbit
        go_wp2
        go_round
        case rel => exact ⟨k + 1, by go_num, by omega, fun j hj => by
          by_cases e : j = k
          · rw [e]; exact HE.out
          · exact HK.out j (by omega)⟩
        case measure => simp [B.iv]; omega
    · obtain rfl : k = m := by omega
      exact absurd (zero_of (HS.out.ml g) (fun j hj => HK.out j (by rw [← HM.out]; exact hj))) HZ.out
set_option maxHeartbeats 4000000 in
theorem rclose_go {w : World} {F : Nat → Prop} {P : Par} {us : Us} {s q u : Nat} {vf vl : Value} {rb : Nat → Nat} {fs : List Nat} {mk : Ms} (hr : Ro w F q P us) (h : Sr w s q u vf vl rb fs mk) (dis : ∀ x, sft s vf vl rb fs x → ¬ F x) {i g : Nat} (hg : fs[i]? = some g) (hz : mk g = 0) {u' : Nat} (hu : us g = some u') (hu2 : 2 ≤ u') : Calls Tryz.prog 73 #[.pointer (some ⟨s, 0, none⟩), .int .i64 i] w fun e w' => ∃ vf' vl', e = .returned (.int .i64 0) ∧ Ro w' F q P (pt us g none) ∧ Sr w' s q u vf' vl' rb (fs.eraseIdx i) mk ∧ (∀ x, sft s vf' vl' rb (fs.eraseIdx i) x → ¬ F x) ∧ Kp (fun x => F x ∨ sft s vf vl rb fs x) (fun x => F x ∨ sft s vf' vl' rb (fs.eraseIdx i) x) w w' := by
  obtain ⟨fa, fc, rfl⟩ := h.vf
  obtain ⟨la, lc, rfl⟩ := h.vl
  obtain ⟨fb, rfl, hcf⟩ := h.fat hg
  obtain ⟨lb, rfl, hcl⟩ := h.lat hg
  have hgm : g ∈ fs := List.mem_of_getElem? hg
  have hil := (List.getElem?_eq_some_iff.1 hg).1
  have c2 := h.c2
  have c3 := h.c3
  have HS : Hid (Sr w s q u (.slice (some ⟨fb, 0, none⟩) fs.length fc) (.slice (some ⟨lb, 0, none⟩) fs.length lc) rb fs mk) := h
  have HG : Hid (fs[i]? = some g) := hg
  have HGM : Hid (g ∈ fs) := hgm
  have hlen := h.len
  have hpn := pn_le u
  obtain ⟨n, hn⟩ : ∃ n, fs.length = n := ⟨_, rfl⟩
  have HNl : Hid (fs.length = n) := hn
  rw [hn] at c2 c3 hlen hil
  have hilI : (i : Int) < (n : Int) := by omega
  obtain ⟨m, hm⟩ : ∃ m, pn u = m := ⟨_, rfl⟩
  have HM : Hid (pn u = m) := hm
  rw [hm] at hpn hcl
  have HZ : Hid (mk g = 0) := hz
  have HD : Hid (∀ W, Below w.heap.size w W → W.cell? ⟨s, 0, none⟩ = some (.pointer (some ⟨q, 0, none⟩)) ∧ W.cell? ⟨s, 2, none⟩ = some (.slice (some ⟨fb, 0, none⟩) n fc) ∧ W.cell? ⟨s, 3, none⟩ = some (.slice (some ⟨lb, 0, none⟩) n lc)) := fun W hW => by
    rw [← hn]
    exact ⟨(h.below hW).c0, (h.below hW).c2, (h.below hW).c3⟩
  have HRO : Hid (Ro w F q P us) := hr
  have HDI : Hid (∀ x, sft s (.slice (some ⟨fb, 0, none⟩) fs.length fc) (.slice (some ⟨lb, 0, none⟩) fs.length lc) rb fs x → ¬ F x) := dis
  have HUS : Hid (us g = some u') := hu
  have hg4 := h.f4 g hgm
  obtain ⟨j0, hj0, hy0, hy1, hy2⟩ := info_parts B.Tryz.infoI
  obtain ⟨l0, hl0, hx0, hx1, hx2⟩ := info_parts Tryz.infoBs
  clear h hg hz hgm hn hm hr dis hu
  go_enter Tryz.func73, Tryz.ntmps73
  go_wp2
  go_loop [5] (fun z => ∃ k : Nat, z = .int .i64 k ∧ k ≤ m) (fun z => m - (B.iv z).toNat)
  case atStart => exact ⟨0, rfl, by omega⟩
  case round =>
    obtain ⟨k, rfl, hk⟩ := hrel
    by_cases hkm : k < m
    · have hkI : (k : Int) < (m : Int) := by omega
      have hb := HS.out.bit HGM.out (k := k) (by rw [HM.out]; exact hkm)
      rw [HZ.out, Nat.zero_testBit] at hb
      go_wp2
      go_round
      case rel => exact ⟨k + 1, by go_num, by omega⟩
      case measure => simp [B.iv]; omega
    · obtain rfl : k = m := by omega
      clear c2 c3
      obtain ⟨c0, c2, c3⟩ := HD.out w (Below.refl _ _)
      go_wp2
      clear c0 c2 c3
      rw [← HM.out] at hcl
      go_loopw [7, 8, 9] (fun vF vL z wr => ∃ (t : Nat) (A : List Nat) (vF' vL' : Value), z = .int .i64 t ∧ vF' = vF ∧ vL' = vL ∧ t ≤ n ∧ A = (fs.take t).eraseIdx i ∧ Lo w wr u A A rb vF' vL' none) (fun _ _ z _ => n - (B.iv z).toNat)
      case atStart => exact ⟨0, [], _, _, rfl, rfl, rfl, by omega, by simp, lo_start _ _ _⟩
      case round =>
        obtain ⟨t, A, vF, vL, rfl, hvF, hvL, ht, hA, hL⟩ := hrel
        subst hvF hvL
        have HL : Hid (Lo w wr u A A rb vF vL none) := hL
        have HA : Hid (A = (fs.take t).eraseIdx i) := hA
        have hal : A.length ≤ 4096 := by
          rw [hA]
          have := List.length_eraseIdx_le (fs.take t) i
          rw [List.length_take] at this
          omega
        obtain ⟨a0, ha0⟩ : ∃ a0, A.length = a0 := ⟨_, rfl⟩
        have HA0 : Hid (A.length = a0) := ha0
        rw [ha0] at hal
        clear hL hA ha0
        by_cases htn : t < n
        · have htI : (t : Int) < (n : Int) := by omega
          obtain ⟨y, hy⟩ : ∃ y, fs[t]? = some y := ⟨_, List.getElem?_eq_getElem (by rw [HNl.out]; exact htn)⟩
          have HY : Hid (fs[t]? = some y) := hy
          have hy4 := HS.out.f4 y (List.mem_of_getElem? hy)
          obtain ⟨fb', e1, hcf'⟩ := HS.out.fat hy
          cases e1
          obtain ⟨lb', e1, hcl'⟩ := HS.out.lat hy
          cases e1
          have HC : Hid (∀ W, Below w.heap.size w W → W.cell? ⟨s, 0, none⟩ = some (.pointer (some ⟨q, 0, none⟩)) ∧ W.cell? ⟨s, 2, none⟩ = some (.slice (some ⟨fb, 0, none⟩) n fc) ∧ W.cell? ⟨s, 3, none⟩ = some (.slice (some ⟨lb, 0, none⟩) n lc) ∧ W.cell? ⟨fb, t, none⟩ = some (.int .i64 y) ∧ W.cell? ⟨lb, t, none⟩ = some (.slice (some ⟨rb y, 0, none⟩) (pn u) (pn u))) := fun W hW => by
            obtain ⟨p1, p2, p3⟩ := HD.out W hW
            exact ⟨p1, p2, p3, (hW.cell (p := ⟨fb, t, none⟩) (HS.out.of.lt fb rfl)).trans hcf', (hW.cell (p := ⟨lb, t, none⟩) (rw_lt HS.out.ol lb rfl)).trans hcl'⟩
          clear hy hcf' hcl'
          by_cases hti : t = i
          · subst hti
            obtain ⟨d1, d2, d3, d4, d5⟩ := HC.out _ HL.out.be
            go_wp2
            go_roundw
            case rel => exact ⟨t + 1, A, vF, vL, by go_num, rfl, rfl, by omega, by rw [HA.out, er_skip HY.out], HL.out⟩
            case measure => simp [B.iv]; omega
          · have htiB : ((t : Int) != (i : Int)) = true := by simp; omega
            have htiI : ¬ (t : Int) = (i : Int) := by omega
            obtain ⟨d1, d2, d3, d4, d5⟩ := HC.out _ HL.out.be
            go_wp2_with (first
              | (at_builtin; refine wpList_append_lies _ rfl (.tmp 51) (.tmp 59) 25 rfl w.heap.size 3 j0 _ 1 8 Tryz.underlying25 hj0 hy0 hy1 hy2 rfl (by decide) vF (a0) (tv (ints (A))) rfl (World.ownsRow.alloc (HL.out.fr HA0.out) _) ⟨wr.heap.size, 0, none⟩ 1 1 [.int .i64 (y : Nat)] rfl rfl (cell_one_new _ _ _) (by intro u hu; simp at hu; subst hu; rfl) (by omega) (by unfold maxLen; omega) (by omega) (by simp; have := HL.out.be.size; omega) (wr.heap.size + 1) (by simp) ?_; intro gF kF wF oa gra ata lta; have HF : Hid (Lo w wF u (A ++ [y]) _ _ (.slice (some ⟨gF, 0, none⟩) (a0 + 1) kF) _ _) := HL.out.fnext HA0.out ((World.grownBy_alloc _ _ _).trans gra) oa (ata.imp id (fun z => by omega)); clear oa gra ata lta; clear d1 d2 d3 d4 d5; obtain ⟨d1, d2, d3, d4, d5⟩ := HC.out _ HF.out.be)
              | (at_builtin; refine wpList_append_lies _ rfl (.tmp 61) (.tmp 69) 122 rfl w.heap.size 137 l0 _ 1 24 Tryz.underlying122 hl0 hx0 hx1 hx2 rfl (by decide) vL (a0) (rws u rb (A)) rfl (World.ownsRow.alloc (HF.out.lr HA0.out) _) ⟨(wF).heap.size, 0, none⟩ 1 1 [.slice (some ⟨rb y, 0, none⟩) (pn u) (pn u)] rfl rfl (cell_one_new _ _ _) (by intro u hu; simp at hu; subst hu; rfl) (by omega) (by unfold maxLen; omega) (by omega) (by simp; have := HF.out.be.size; omega) ((wF).heap.size + 1) (by simp) ?_; intro gN kN wN oa gra ata lta; have HN : Hid (Lo w wN u (A ++ [y]) ((A) ++ [y]) rb (.slice (some ⟨gF, 0, none⟩) (a0 + 1) kF) (.slice (some ⟨gN, 0, none⟩) (a0 + 1) kN) none) := HF.out.lnext HA0.out ((World.grownBy_alloc _ _ _).trans gra) oa (ata.imp id (fun z => by omega)); clear oa gra ata lta)
              )
            go_roundw
            case rel => exact ⟨t + 1, A ++ [y], _, _, by go_num, rfl, rfl, by omega, by rw [HA.out, er_same HY.out hti], HN.out⟩
            case measure => simp [B.iv]; omega
        · obtain rfl : t = n := by omega
          have htI : ¬ (t : Int) < (t : Int) := by omega
          have hAe : A = fs.eraseIdx i := by rw [HA.out, ← HNl.out, List.take_length]
          subst hAe
          have hmem := er_mem HS.out.asc HG.out
          have HFN := fun v1 v2 (hL : Lo w wr u (fs.eraseIdx i) (fs.eraseIdx i) rb v1 v2 none) => HS.out.reopen (f := 0) hL (HS.out.asc.sublist (List.eraseIdx_sublist _ _)) (fun x hx => HS.out.f4 x ((hmem x).1 hx).1) (fun g' hg' => Or.inl ⟨((hmem g').1 hg').1, rfl⟩) (fun g' hg' => by
            by_cases e : g' ∈ fs
            · by_cases e2 : g' = g
              · rw [e2]; exact HZ.out
              · exact absurd ((hmem g').2 ⟨e, e2⟩) hg'
            · exact HS.out.z g' e)
          obtain ⟨a1, c1, e1⟩ := HL.out.f.own.len
          obtain ⟨a2, c2', e2⟩ := row_len HL.out.l
          subst e1 e2
          obtain ⟨h9, k9⟩ := HFN _ _ HL.out
          have HFZ : Hid (∀ i, wr.frozen? ⟨s, i, none⟩ = false) := (HS.out.below HL.out.be).fz
          have z2 := HFZ.out 2
          have z3 := HFZ.out 3
          obtain ⟨d1, d2, d3⟩ := HD.out _ HL.out.be
          obtain ⟨W5, hW5⟩ : ∃ W5, (wr.setCell ⟨s, 2, none⟩ (.slice a1 (ints (fs.eraseIdx i)).length c1)).setCell ⟨s, 3, none⟩ (.slice a2 (fs.eraseIdx i).length c2') = W5 := ⟨_, rfl⟩
          rw [hW5] at h9 k9
          have H9 : Hid (Sr W5 s q u _ _ rb (fs.eraseIdx i) mk) := h9
          have K9 : Hid (Kp _ _ w W5) := k9
          have hR5 : Ro W5 F q P us := HRO.out.kept k9 (fun x hx z => HDI.out x z hx)
          have CG : Hid (Calls _ _ _ _ _) := rGive_p hR5 g u' HUS.out hu2
          have c0' := h9.c0
          clear h9 k9 HFN HL hR5 hmem
          go_wp2_with fail
          refine CG.out.mono ?_
          rintro e w6 ⟨rfl, hR6, k6⟩
          have DI : ∀ x, sft s (.slice a1 (ints (fs.eraseIdx i)).length c1) (.slice a2 (fs.eraseIdx i).length c2') rb (fs.eraseIdx i) x → ¬ F x := fun x hx hF => by
            rcases K9.out.new x hx with z | z
            · exact HDI.out x z hF
            · have := HRO.out.lt x hF; omega
          have FIN : Hid (Ro w6 F q P (pt us g none) ∧ Sr w6 s q u _ _ rb (fs.eraseIdx i) mk ∧ _ ∧ Kp (fun x => F x ∨ _) (fun x => F x ∨ _) w w6) := ⟨hR6, H9.out.of_eq k6.size (fun x hx => k6.block x (H9.out.flt x hx) (DI x hx)), DI, kp_both K9.out k6 HRO.out.lt⟩
          clear hR6 k6 DI CG hW5 d1 d2 d3
          go_wp2
          go_ret
          exact ⟨_, _, rfl, FIN.out.1, FIN.out.2.1, FIN.out.2.2.1, FIN.out.2.2.2⟩
theorem rclose_s {w : World} {F : Nat → Prop} {P : Par} {us : Us} {s q u : Nat} {vf vl : Value} {rb : Nat → Nat} {fs : List Nat} {mk : Ms} (hr : Ro w F q P us) (h : Sr w s q u vf vl rb fs mk) (dis : ∀ x, sft s vf vl rb fs x → ¬ F x) {i g : Nat} (hg : fs[i]? = some g) {u' : Nat} (hu : us g = some u') (hu2 : 2 ≤ u') : Calls Tryz.prog 73 #[.pointer (some ⟨s, 0, none⟩), .int .i64 i] w fun e w' => ∃ vf' vl' fs', e = .returned (.int .i64 0) ∧ Ro w' F q P (if mk g = 0 then pt us g none else us) ∧ Sr w' s q u vf' vl' rb fs' mk ∧ fs' = (if mk g = 0 then fs.eraseIdx i else fs) ∧ (∀ x, sft s vf' vl' rb fs' x → ¬ F x) ∧ Kp (fun x => F x ∨ sft s vf vl rb fs x) (fun x => F x ∨ sft s vf' vl' rb fs' x) w w' := by
  by_cases hz : mk g = 0
  · refine (rclose_go hr h dis hg hz hu hu2).mono ?_
    rintro e w' ⟨vf', vl', rfl, h1, h2, h3, h4⟩
    exact ⟨vf', vl', _, rfl, by rw [if_pos hz]; exact h1, h2, by rw [if_pos hz], h3, h4⟩
  · refine (rclose_keep h hg hz).mono ?_
    rintro e w' ⟨rfl, h1⟩
    obtain rfl := h1.symm
    exact ⟨vf, vl, fs, rfl, by rw [if_neg hz]; exact hr, h, by rw [if_neg hz], dis, Kp.refl _ _⟩
end Go.Proofs.YtdempgjhjcjklaaGreat.P
