/- What the document's slab's Held and New give back; no condition but those that each theorem names. -/
import Derived.Test.YtdempgjhjcjklaaGreatVYr
import Derived.Test.YtdempgjhjcjklaaGreatVFb
import Derived.Test.YtdempgjhjcjklaaGreatVXe
namespace Go.Proofs.YtdempgjhjcjklaaGreat.P
open B Go.ChangeShapes Go.WideShapes Go.ChangeAt Go.RowKit
set_option linter.unusedVariables false
set_option maxRecDepth 8192

set_option maxHeartbeats 2000000 in
theorem rsHeld_s {w : World} {s q u : Nat} {vf vl : Value} {rb : Nat → Nat} {mk : Ms} (h : Sr w s q u vf vl rb (fl mk) mk) : Calls Tryz.prog 38 #[.pointer (some ⟨s, 0, none⟩)] w fun e w' => ∃ v, e = .returned v ∧ Iu w' w.heap.size v (hel u mk) ∧ Below w.heap.size w w' := by
  have C1 : Hid (Calls _ _ _ _ _) := rsthere_s h
  obtain ⟨fa, fc, rfl⟩ := h.vf
  obtain ⟨la, lc, rfl⟩ := h.vl
  have HS : Hid (Sr w s q u (.slice fa (fl mk).length fc) (.slice la (fl mk).length lc) rb (fl mk) mk) := h
  have hlen := h.len
  have hpn := pn_le u
  obtain ⟨n, hn⟩ : ∃ n, (fl mk).length = n := ⟨_, rfl⟩
  have HN : Hid ((fl mk).length = n) := hn
  have HD : Hid (∀ W, Below w.heap.size w W → W.cell? ⟨s, 2, none⟩ = some (.slice fa n fc) ∧ W.cell? ⟨s, 3, none⟩ = some (.slice la n lc)) := fun W hW => by
    rw [← hn]
    exact ⟨(h.below hW).c2, (h.below hW).c3⟩
  rw [hn] at hlen
  obtain ⟨m, hm⟩ : ∃ m, pn u = m := ⟨_, rfl⟩
  have HM : Hid (pn u = m) := hm
  rw [hm] at hpn
  obtain ⟨j0, hj0, hy0, hy1, hy2⟩ := info_parts Tryz.infoU64
  have HFI : Hid (hlf u mk (fl mk) n = hel u mk) := by
    show hlf u mk (fl mk) n = hel u mk
    unfold hlf
    rw [← hn, List.take_length]
    exact hel_fl u mk
  clear h hn hm
  go_enter Tryz.func38, Tryz.ntmps38
  go_wp2_with (go_at_call 69; refine C1.out.mono ?_; rintro e w' ⟨rfl, h⟩; obtain rfl := h.symm)
  clear C1
  go_loopw [3, 4] (fun v z wr => ∃ (i : Nat) (v' : Value), z = .int .i64 i ∧ v' = v ∧ i ≤ n ∧ Iu wr w.heap.size v' (hlf u mk (fl mk) i) ∧ Below w.heap.size w wr) (fun _ z _ => n - (B.iv z).toNat)
  case atStart => exact ⟨0, _, rfl, rfl, by omega, Iu.nil _ _, Below.refl _ _⟩
  case round =>
    obtain ⟨i, v, rfl, hv, hi, hI, hB⟩ := hrel
    subst hv
    have HI0 : Hid (Iu wr w.heap.size v (hlf u mk (fl mk) i)) := hI
    have HB0 : Hid (Below w.heap.size w wr) := hB
    clear hI hB
    by_cases hlt : i < n
    · have hltI : (i : Int) < (n : Int) := by omega
      obtain ⟨g, hg⟩ : ∃ g, (fl mk)[i]? = some g := ⟨_, List.getElem?_eq_getElem (by rw [HN.out]; exact hlt)⟩
      have HG : Hid ((fl mk)[i]? = some g) := hg
      have hgm : g ∈ fl mk := List.mem_of_getElem? hg
      have HGM : Hid (g ∈ fl mk) := hgm
      have hg4 := HS.out.f4 g hgm
      obtain ⟨lb, rfl, hcl⟩ := HS.out.lat hg
      obtain ⟨fb, rfl, hcf⟩ := HS.out.fat hg
      have HC : Hid (∀ W, Below w.heap.size w W → W.cell? ⟨s, 2, none⟩ = some (.slice (some ⟨fb, 0, none⟩) n fc) ∧ W.cell? ⟨s, 3, none⟩ = some (.slice (some ⟨lb, 0, none⟩) n lc) ∧ W.cell? ⟨fb, i, none⟩ = some (.int .i64 g) ∧ W.cell? ⟨lb, i, none⟩ = some (.slice (some ⟨rb g, 0, none⟩) m m)) := fun W hW => by
        obtain ⟨p2, p3⟩ := HD.out W hW
        exact ⟨p2, p3, (hW.cell (p := ⟨fb, i, none⟩) (HS.out.of.lt fb rfl)).trans hcf, by rw [← HM.out]; exact (hW.cell (p := ⟨lb, i, none⟩) (rw_lt HS.out.ol lb rfl)).trans hcl⟩
      have hL0 := hlf_len u mk (fl mk) i
      obtain ⟨H0, hH0⟩ : ∃ H0, hlf u mk (fl mk) i = H0 := ⟨_, rfl⟩
      have HH0 : Hid (hlf u mk (fl mk) i = H0) := hH0
      rw [hH0] at hL0 HI0
      clear hg hgm hcl hcf hH0
      obtain ⟨d2, d3, d4, d5⟩ := HC.out _ HB0.out
      go_wp2
      clear d2 d3 d4 d5
      go_loopw [3, 5] (fun v z wx => ∃ (k : Nat) (v' : Value), z = .int .i64 k ∧ v' = v ∧ k ≤ m ∧ Iu wx w.heap.size v' (H0 ++ adk u g (mk g) k) ∧ Below w.heap.size w wx) (fun _ z _ => m - (B.iv z).toNat)
      case atStart => exact ⟨0, _, rfl, rfl, by omega, by rw [adk_zero, List.append_nil]; exact HI0.out, HB0.out⟩
      case round =>
        clear HI0 HB0
        obtain ⟨k, v, rfl, hv, hk, hI, hB⟩ := hrel
        subst hv
        have HI1 : Hid (Iu wr w.heap.size v (H0 ++ adk u g (mk g) k)) := hI
        have HB1 : Hid (Below w.heap.size w wr) := hB
        clear hI hB
        obtain ⟨d2, d3, d4, d5⟩ := HC.out _ HB1.out
        by_cases hkm : k < m
        · have hkI : (k : Int) < (m : Int) := by omega
          have hku : k < pn u := by rw [HM.out]; exact hkm
          have hb := (HS.out.below HB1.out).bit HGM.out hku
          cases hbit : (mk g).testBit k with
          | false =>
            rw [hbit] at hb
            have HE : Hid (adk u g (mk g) (k + 1) = adk u g (mk g) k) := adk_off hbit
            clear hbit
            go_wp2
            go_roundw
            case rel => exact ⟨k + 1, v, by go_num, rfl, by omega, by rw [HE.out]; exact HI1.out, HB1.out⟩
            case measure => simp [B.iv]; omega
          | true =>
            rw [hbit] at hb
            have HE : Hid (adk u g (mk g) (k + 1) = adk u g (mk g) k ++ [((256 * g + k * sz u : Nat) : Int)]) := adk_on hbit
            have CA : Hid (Calls _ _ _ _ _) := raddress_s (HS.out.below HB1.out) g k hg4 hku
            have hal := adk_len u g (mk g) k
            obtain ⟨y, hy⟩ : ∃ y, 256 * g + k * sz u = y := ⟨_, rfl⟩
            obtain ⟨L, hL⟩ : ∃ L, H0 ++ adk u g (mk g) k = L := ⟨_, rfl⟩
            have HL : Hid (H0 ++ adk u g (mk g) k = L) := hL
            have hLl : L.length ≤ 16 * 4096 + 16 := by rw [← hL, List.length_append]; omega
            rw [hy] at CA HE
            rw [hL] at HI1
            obtain ⟨l, hl⟩ : ∃ l, L.length = l := ⟨_, rfl⟩
            have HLl : Hid (L.length = l) := hl
            have HI2 : Hid (wr.ownsRow w.heap.size 22 1 v l (U.vs L)) := by rw [← hl]; exact HI1.out
            rw [hl] at hLl
            clear hbit hy hL hl hku hal
            go_wp2_with fail
            refine CA.out.mono ?_
            rintro e w6 ⟨rfl, hw6⟩
            obtain rfl := hw6.symm
            clear hw6 CA
            go_wp2_with (at_builtin; refine wpList_append_lies _ rfl (.tmp 40) (.tmp 51) 55 rfl w.heap.size 22 j0 _ 1 8 Tryz.underlying55 hj0 hy0 hy1 hy2 rfl (by decide) v l (U.vs L) rfl (World.ownsRow.alloc HI2.out _) ⟨wr.heap.size, 0, none⟩ 1 1 [.int .u64 (y : Nat)] rfl rfl (cell_one_new _ _ _) (by intro u hu; simp at hu; subst hu; rfl) (by omega) (by unfold maxLen; omega) (by omega) (by simp; have := HB1.out.size; omega) (wr.heap.size + 1) (by simp) ?_; intro ga ka wa oa gra ata lta)
            have HI3 : Hid (Iu wa w.heap.size (.slice (some ⟨ga, 0, none⟩) (l + 1) ka) (H0 ++ adk u g (mk g) (k + 1))) := by
              rw [HE.out, ← List.append_assoc, HL.out]
              exact iu_snoc (by rw [HLl.out]; exact oa)
            have HB3 : Hid (Below w.heap.size w wa) := HB1.out.trans (below_of ((World.grownBy_alloc _ _ _).trans gra) _ HB1.out.size (fun x hx => (HI1.out.lt x hx).1))
            clear oa gra ata lta d2 d3 d4 d5 hb
            go_wp2
            go_roundw
            case rel => exact ⟨k + 1, _, by go_num, rfl, by omega, HI3.out, HB3.out⟩
            case measure => simp [B.iv]; omega
        · obtain rfl : k = m := by omega
          have hkI : ¬ (k : Int) < (k : Int) := by omega
          have HI4 : Hid (Iu wr w.heap.size v (hlf u mk (fl mk) (i + 1))) := by
            rw [hlf_next HG.out, HH0.out, HM.out]
            exact HI1.out
          go_wp2
          go_roundw
          case rel => exact ⟨i + 1, _, by go_num, rfl, by omega, HI4.out, HB1.out⟩
          case measure => simp [B.iv]; omega
    · obtain rfl : i = n := by omega
      have hltI : ¬ (i : Int) < (i : Int) := by omega
      rw [HFI.out] at HI0
      obtain ⟨d2, d3⟩ := HD.out _ HB0.out
      go_wp2
      go_ret
      exact ⟨_, rfl, HI0.out, HB0.out⟩
theorem rsNew_s {w : World} {F : Nat → Prop} {q : Nat} {P : Par} {us : Us} (h : Ro w F q P us) {u : Nat} (hu : 4 ≤ u ∧ u ≤ 6) : Calls Tryz.prog 28 #[.pointer (some ⟨q, 0, none⟩), .int .u8 u] w fun e w' => ∃ s, e = .returned (.tuple #[.pointer (some ⟨s, 0, none⟩), .int .i64 0]) ∧ Sr w' s q u (.slice none 0 0) (.slice none 0 0) (fun _ => 0) (fl (fun _ => 0)) (fun _ => 0) ∧ w.heap.size ≤ s ∧ Below w.heap.size w w' := by
  obtain ⟨gc, cc, gu, vl, G, bp, L, tk, g1, g2, g3⟩ := h.me
  have cm := g1.cm
  have C2 : Hid (Calls _ _ _ _ _) := rSize_ok hu w
  have hs := sz_le u
  have hz : ((sz u : Int) == 0) = false := by simp; omega
  have hz2 : ¬ (sz u : Int) = 0 := by omega
  have hfl : fl (fun _ => 0) = [] := by simp [fl]
  have FIN : Hid (Sr (w.alloc (.cells #[.pointer (some ⟨q, 0, none⟩), .int .u8 u, .slice none 0 0, .slice none 0 0] 124)) w.heap.size q u (.slice none 0 0) (.slice none 0 0) (fun _ => 0) (fl (fun _ => 0)) (fun _ => 0)) := by
    have hb := heap_alloc_last w (.cells #[.pointer (some ⟨q, 0, none⟩), .int .u8 u, .slice none 0 0, .slice none 0 0] 124)
    have hc := fun i => cell_of_row _ w.heap.size i _ 124 (0, 0) hb
    rw [hfl]
    refine ⟨hu, (Array.getElem?_eq_some_iff.1 hb).1, fun i => ?_, by rw [hc]; rfl, by rw [hc]; rfl, by rw [hc]; rfl, by rw [hc]; rfl, Own.nil _, World.ownsRow_nil _ _ _ _, (fun g hg => by cases hg), List.Pairwise.nil, (fun g hg => by cases hg), fun g => Nat.two_pow_pos _, fun _ _ => rfl, (fun e => by cases e), (fun e => by cases e), (fun x e => by cases e), (fun g hg => by cases hg), (fun g g' hg => by cases hg)⟩
    generalize w.alloc (.cells #[.pointer (some ⟨q, 0, none⟩), .int .u8 u, .slice none 0 0, .slice none 0 0] 124) = W at hb
    simp [World.frozen?, hb]
  have HB : Hid (Below w.heap.size w (w.alloc (.cells #[.pointer (some ⟨q, 0, none⟩), .int .u8 u, .slice none 0 0, .slice none 0 0] 124))) := (Below.refl _ w).alloc (Nat.le_refl _) _
  clear h hu g1 g2 g3 hfl
  generalize sz u = d at *
  go_enter Tryz.func28, Tryz.ntmps28
  go_wp2_with (go_at_call 64; refine C2.out.mono ?_; rintro e w' ⟨rfl, h⟩; obtain rfl := h.symm)
  go_ret2
  exact ⟨_, rfl, FIN.out, Nat.le_refl _, HB.out⟩
end Go.Proofs.YtdempgjhjcjklaaGreat.P
namespace Go.Proofs.YtdempgjhjcjklaaGreat.P
open B Go.ChangeShapes Go.WideShapes Go.ChangeAt Go.RowKit
set_option linter.unusedVariables false
set_option maxRecDepth 8192

theorem Tko.keep {P : Par} {us us' : Us} {u g e : Nat} (h : Tko P us u g e us') {x : Nat} (hx : us x ≠ none) : us' x = us x := by
  rcases h with ⟨_, ⟨x0, t1, t2, rfl⟩, _⟩ | ⟨_, _, rfl, _⟩
  · have hgn : us g = none := by rw [t2]; exact (opn_iff.1 t1.open).2
    have : x ≠ g := fun e => hx (e ▸ hgn)
    unfold pt
    rw [if_neg this]
  · rfl
theorem TkS.keep {P : Par} {u : Nat} {us : Us} {mk : Ms} {a e : Nat} {us' : Us} {mk' : Ms} (h : TkS P u us mk a e us' mk') {x : Nat} (hx : us x ≠ none) : us' x = us x := by
  rcases h with ⟨_, _, _, _, _, _, rfl, _⟩ | ⟨_, g, h1, _⟩
  · rfl
  · exact h1.keep hx
theorem lk_keep {u : Nat} {us us' : Us} {mk : Ms} (h : Lk u us mk) (hk : ∀ x, us x ≠ none → us' x = us x) : Lk u us' mk := fun g hg => by
  rw [hk g (by rw [h g hg]; simp)]
  exact h g hg
theorem TkS.frm {P : Par} {u : Nat} {us : Us} {mk : Ms} {a e : Nat} {us' : Us} {mk' : Ms} (h : TkS P u us mk a e us' mk') {x : Nat} (hx : mk' x ≠ 0) : mk x ≠ 0 ∨ us x = none := by
  rcases h with ⟨g, i, h1, h2, rfl, rfl, rfl, rfl⟩ | ⟨h0, g, h1, h2⟩
  · by_cases q : x = g
    · rw [q]; exact Or.inl h1.1.1
    · rw [put_other _ _ _ _ q] at hx; exact Or.inl hx
  · rcases h2 with ⟨_, _, rfl⟩ | ⟨_, _, rfl⟩
    · by_cases q : x = g
      · rcases h1 with ⟨_, ⟨x0, t1, t2, _⟩, _⟩ | ⟨e1, _⟩
        · rw [q, t2]; exact Or.inr (opn_iff.1 t1.open).2
        · exact absurd e1 (by omega)
      · rw [put_other _ _ _ _ q] at hx; exact Or.inl hx
    · exact Or.inl hx
theorem GvS.frm {u : Nat} {us : Us} {mk : Ms} {a e : Nat} {us' : Us} {mk' : Ms} (h : GvS u us mk a e us' mk') {x : Nat} (hx : mk' x ≠ 0) : mk x ≠ 0 := by
  rcases h with ⟨g, i, h1, rfl, rfl, rfl⟩ | ⟨h0, rfl, rfl, rfl⟩
  · by_cases q : x = g
    · subst q
      intro e
      have := h1.2.2
      rw [e] at this
      simp at this
    · rwa [put_other _ _ _ _ q] at hx
  · exact hx
theorem GvS.keep {u : Nat} {us : Us} {mk : Ms} {a e : Nat} {us' : Us} {mk' : Ms} (h : GvS u us mk a e us' mk') {x : Nat} (hx : mk x = 0) : us' x = us x := by
  rcases h with ⟨g, i, h1, rfl, rfl, rfl⟩ | ⟨h0, rfl, rfl, rfl⟩
  · have hg : x ≠ g := fun e => by
      have := h1.2.2
      rw [← e, hx] at this
      simp at this
    split
    · unfold pt
      rw [if_neg hg]
    · rfl
  · rfl
structure SlP (w : World) (FP : Nat → Prop) (p : Nat) (P : Par) (us : Us) (m : Nat) (s b u : Nat → Nat) (mk : Nat → Ms) (F : Nat → Prop) : Prop where
  po : Po w F p P us
  sl : ∀ i, i < m → Sl w (s i) (b i) p (u i) (mk i)
  lk : ∀ i, i < m → Lk (u i) us (mk i)
  dj : ∀ i j g, i < m → j < m → i ≠ j → mk i g ≠ 0 → mk j g = 0
  nF : ∀ i, i < m → ¬ F (s i) ∧ ¬ F (b i)
  nn : ∀ i j, i < m → j < m → s i ≠ b j
  n2 : ∀ i j, i < m → j < m → i ≠ j → s i ≠ s j ∧ b i ≠ b j
  fp : ∀ x, FP x ↔ F x ∨ ∃ i, i < m ∧ (x = s i ∨ x = b i)
theorem SlP.lt {w : World} {FP : Nat → Prop} {p : Nat} {P : Par} {us : Us} {m : Nat} {s b u : Nat → Nat} {mk : Nat → Ms} {F : Nat → Prop} (h : SlP w FP p P us m s b u mk F) : ∀ x, FP x → x < w.heap.size := fun x hx => by
  rcases (h.fp x).1 hx with z | ⟨i, hi, rfl | rfl⟩
  · exact h.po.lt x z
  · exact (h.sl i hi).lt
  · exact (h.sl i hi).mp.lt
theorem SlP.of_eq {w w' : World} {FP : Nat → Prop} {p : Nat} {P : Par} {us : Us} {m : Nat} {s b u : Nat → Nat} {mk : Nat → Ms} {F : Nat → Prop} (h : SlP w FP p P us m s b u mk F) (hs : w.heap.size ≤ w'.heap.size) (e : ∀ x, FP x → w'.heap[x]? = w.heap[x]?) : SlP w' FP p P us m s b u mk F :=
  { h with
    po := h.po.of_eq hs (fun x hx => e x ((h.fp x).2 (Or.inl hx)))
    sl := fun i hi => (h.sl i hi).of_eq hs (e _ ((h.fp _).2 (Or.inr ⟨i, hi, Or.inl rfl⟩))) (e _ ((h.fp _).2 (Or.inr ⟨i, hi, Or.inr rfl⟩))) }
theorem SlP.below {w w' : World} {FP : Nat → Prop} {p : Nat} {P : Par} {us : Us} {m : Nat} {s b u : Nat → Nat} {mk : Nat → Ms} {F : Nat → Prop} (h : SlP w FP p P us m s b u mk F) (k : Below w.heap.size w w') : SlP w' FP p P us m s b u mk F := h.of_eq k.size (fun x hx => k.block x (h.lt x hx))
theorem SlP.turn {w w' : World} {FP : Nat → Prop} {p : Nat} {P : Par} {us us' : Us} {m : Nat} {s b u : Nat → Nat} {mk : Nat → Ms} {F F' : Nat → Prop} (h : SlP w FP p P us m s b u mk F) {i : Nat} (hi : i < m) {mk' : Ms} (hp : Po w' F' p P us') (hs : Sl w' (s i) (b i) p (u i) mk') (d1 : ¬ F' (s i)) (d2 : ¬ F' (b i)) (k : Kp (fun x => F x ∨ x = b i) (fun x => F' x ∨ x = b i) w w') (lk' : Lk (u i) us' mk') (lo : ∀ j, j < m → j ≠ i → Lk (u j) us' (mk j)) (hd : ∀ j g, j < m → j ≠ i → mk' g ≠ 0 → mk j g = 0) :
    SlP w' (fun x => F' x ∨ ∃ i, i < m ∧ (x = s i ∨ x = b i)) p P us' m s b u (put mk i mk') F' ∧ Kp FP (fun x => F' x ∨ ∃ i, i < m ∧ (x = s i ∨ x = b i)) w w' := by
  have out : ∀ j, j < m → j ≠ i → ¬ (F (s j) ∨ s j = b i) ∧ ¬ (F (b j) ∨ b j = b i) := fun j hj hn => ⟨fun z => by
    rcases z with z | z
    · exact (h.nF j hj).1 z
    · exact h.nn j i hj hi z, fun z => by
    rcases z with z | z
    · exact (h.nF j hj).2 z
    · exact (h.n2 j i hj hi hn).2 z⟩
  refine ⟨⟨hp, fun j hj => ?_, fun j hj => ?_, fun j t g hj ht hne hg => ?_, fun j hj => ?_, h.nn, h.n2, fun x => Iff.rfl⟩, ⟨k.os, k.tape, k.output, k.size, fun x hx hn => k.block x hx (fun z => hn ?_), fun x hx => ?_⟩⟩
  · by_cases e : j = i
    · subst e; rw [put_same]; exact hs
    · rw [put_other _ _ _ _ e]; exact (h.sl j hj).kp k (out j hj e).1 (out j hj e).2
  · by_cases e : j = i
    · subst e; rw [put_same]; exact lk'
    · rw [put_other _ _ _ _ e]; exact lo j hj e
  · by_cases e : j = i
    · subst e
      rw [put_same] at hg
      rw [put_other _ _ _ _ (fun z => hne z.symm)]
      exact hd t g ht (fun z => hne z.symm) hg
    · rw [put_other _ _ _ _ e] at hg
      by_cases e2 : t = i
      · subst e2
        rw [put_same]
        by_cases q : mk' g = 0
        · exact q
        · exact absurd (hd j g hj e q) hg
      · rw [put_other _ _ _ _ e2]
        exact h.dj j t g hj ht hne hg
  · by_cases e : j = i
    · subst e; exact ⟨d1, d2⟩
    · exact ⟨fun z => kp_out k (h.sl j hj).lt (out j hj e).1 (Or.inl z), fun z => kp_out k (h.sl j hj).mp.lt (out j hj e).2 (Or.inl z)⟩
  · rcases z with z | z
    · exact (h.fp x).2 (Or.inl z)
    · exact (h.fp x).2 (Or.inr ⟨i, hi, Or.inr z⟩)
  · rcases hx with z | z
    · rcases k.new x (Or.inl z) with (y | y) | y
      · exact Or.inl ((h.fp x).2 (Or.inl y))
      · exact Or.inl ((h.fp x).2 (Or.inr ⟨i, hi, Or.inr y⟩))
      · exact Or.inr y
    · exact Or.inl ((h.fp x).2 (Or.inr z))
theorem SlP.take {w : World} {FP : Nat → Prop} {p : Nat} {P : Par} {us : Us} {m : Nat} {s b u : Nat → Nat} {mk : Nat → Ms} {F : Nat → Prop} (h : SlP w FP p P us m s b u mk F) {i : Nat} (hi : i < m) : Calls Tryz.prog 18 #[.pointer (some ⟨s i, 0, none⟩)] w fun x w' => ∃ (a e : Nat) (us' : Us) (mk' : Ms) (FP' F' : Nat → Prop), x = .returned (.tuple #[.int .u64 a, .int .i64 e]) ∧ TkS P (u i) us (mk i) a e us' mk' ∧ SlP w' FP' p P us' m s b u (put mk i mk') F' ∧ Kp FP FP' w w' := by
  refine (STake_s h.po (h.sl i hi) (h.nF i hi).1 (h.nF i hi).2 (h.lk i hi)).mono ?_
  rintro x w' ⟨a, e, us', mk', F', rfl, h1, h2, h3, h4, h5, h6⟩
  obtain ⟨r1, r2⟩ := h.turn hi h2 h3 h4 h5 h6 (h1.lk (h.lk i hi)) (fun j hj hn => lk_keep (h.lk j hj) (fun x hx => h1.keep hx)) (fun j g hj hn hg => by
    rcases h1.frm hg with z | z
    · exact h.dj i j g hi hj (fun e => hn e.symm) z
    · by_cases q : mk j g = 0
      · exact q
      · have := h.lk j hj g q
        rw [z] at this
        cases this)
  exact ⟨a, e, us', mk', _, F', rfl, h1, r1, r2⟩
theorem SlP.give {w : World} {FP : Nat → Prop} {p : Nat} {P : Par} {us : Us} {m : Nat} {s b u : Nat → Nat} {mk : Nat → Ms} {F : Nat → Prop} (h : SlP w FP p P us m s b u mk F) {i : Nat} (hi : i < m) {a e : Nat} {us' : Us} {mk' : Ms} (ha : a < 18446744073709551616) (hg : GvS (u i) us (mk i) a e us' mk') : Calls Tryz.prog 19 #[.pointer (some ⟨s i, 0, none⟩), .int .u64 a] w fun x w' => ∃ (FP' F' : Nat → Prop), x = .returned (.int .i64 e) ∧ SlP w' FP' p P us' m s b u (put mk i mk') F' ∧ Kp FP FP' w w' := by
  refine (SGive_s h.po (h.sl i hi) (h.nF i hi).1 (h.nF i hi).2 (h.lk i hi) ha hg).mono ?_
  rintro x w' ⟨F', rfl, h2, h3, h4, h5, h6⟩
  obtain ⟨r1, r2⟩ := h.turn hi h2 h3 h4 h5 h6 (hg.lk (h.lk i hi)) (fun j hj hn g hz => by
    rw [hg.keep (h.dj j i g hj hi hn hz)]
    exact h.lk j hj g hz) (fun j g hj hn hz => h.dj i j g hi hj (fun e => hn e.symm) (hg.frm hz))
  exact ⟨_, F', rfl, r1, r2⟩
theorem SlP.ptake {w : World} {FP : Nat → Prop} {p : Nat} {P : Par} {us : Us} {m : Nat} {s b u : Nat → Nat} {mk : Nat → Ms} {F : Nat → Prop} (h : SlP w FP p P us m s b u mk F) : Calls Tryz.prog 36 #[.pointer (some ⟨p, 0, none⟩), .int .u8 2] w fun x w' => ∃ (g e : Nat) (us' : Us) (FP' F' : Nat → Prop), x = .returned (.tuple #[.int .i64 g, .int .i64 e]) ∧ Tko P us 2 g e us' ∧ SlP w' FP' p P us' m s b u mk F' ∧ Kp FP FP' w w' := by
  refine (Take_use h.po 2 (by omega) (by omega)).mono ?_
  rintro x w' ⟨g, e, us', F', rfl, h1, h2, k⟩
  refine ⟨g, e, us', (fun x => F' x ∨ ∃ i, i < m ∧ (x = s i ∨ x = b i)), F', rfl, h1, ⟨h2, fun j hj => (h.sl j hj).kp k (h.nF j hj).1 (h.nF j hj).2, fun j hj => lk_keep (h.lk j hj) (fun x hx => h1.keep hx), h.dj, fun j hj => ⟨kp_out k (h.sl j hj).lt (h.nF j hj).1, kp_out k (h.sl j hj).mp.lt (h.nF j hj).2⟩, h.nn, h.n2, fun x => Iff.rfl⟩, ⟨k.os, k.tape, k.output, k.size, fun x hx hn => k.block x hx (fun z => hn ((h.fp x).2 (Or.inl z))), fun x hx => ?_⟩⟩
  rcases hx with z | z
  · rcases k.new x z with y | y
    · exact Or.inl ((h.fp x).2 (Or.inl y))
    · exact Or.inr y
  · exact Or.inl ((h.fp x).2 (Or.inr z))
structure SlR (w : World) (FQ : Nat → Prop) (q : Nat) (P : Par) (us : Us) (m : Nat) (r u : Nat → Nat) (mk : Nat → Ms) (F : Nat → Prop) (vf vl : Nat → Value) (rb : Nat → Nat → Nat) : Prop where
  ro : Ro w F q P us
  sr : ∀ i, i < m → Sr w (r i) q (u i) (vf i) (vl i) (rb i) (fl (mk i)) (mk i)
  ds : ∀ i, i < m → ∀ x, sft (r i) (vf i) (vl i) (rb i) (fl (mk i)) x → ¬ F x
  d2 : ∀ i j, i < m → j < m → i ≠ j → ∀ x, sft (r i) (vf i) (vl i) (rb i) (fl (mk i)) x → ¬ sft (r j) (vf j) (vl j) (rb j) (fl (mk j)) x
  lk : ∀ i, i < m → Lk (u i) us (mk i)
  dj : ∀ i j g, i < m → j < m → i ≠ j → mk i g ≠ 0 → mk j g = 0
  fq : ∀ x, FQ x ↔ F x ∨ ∃ i, i < m ∧ sft (r i) (vf i) (vl i) (rb i) (fl (mk i)) x
def SlU (w : World) (FQ : Nat → Prop) (q : Nat) (P : Par) (us : Us) (m : Nat) (r u : Nat → Nat) (mk : Nat → Ms) : Prop := ∃ F vf vl rb, SlR w FQ q P us m r u mk F vf vl rb
theorem SlU.lt {w : World} {FQ : Nat → Prop} {q : Nat} {P : Par} {us : Us} {m : Nat} {r u : Nat → Nat} {mk : Nat → Ms} (h : SlU w FQ q P us m r u mk) : ∀ x, FQ x → x < w.heap.size := fun x hx => by
  obtain ⟨F, vf, vl, rb, h⟩ := h
  rcases (h.fq x).1 hx with z | ⟨i, hi, z⟩
  · exact h.ro.lt x z
  · exact (h.sr i hi).flt x z
theorem SlU.of_eq {w w' : World} {FQ : Nat → Prop} {q : Nat} {P : Par} {us : Us} {m : Nat} {r u : Nat → Nat} {mk : Nat → Ms} (h : SlU w FQ q P us m r u mk) (hs : w.heap.size ≤ w'.heap.size) (e : ∀ x, FQ x → w'.heap[x]? = w.heap[x]?) : SlU w' FQ q P us m r u mk := by
  obtain ⟨F, vf, vl, rb, h⟩ := h
  exact ⟨F, vf, vl, rb, { h with
    ro := h.ro.of_eq hs (fun x hx => e x ((h.fq x).2 (Or.inl hx)))
    sr := fun i hi => (h.sr i hi).of_eq hs (fun x hx => e x ((h.fq x).2 (Or.inr ⟨i, hi, hx⟩))) }⟩
theorem SlU.below {w w' : World} {FQ : Nat → Prop} {q : Nat} {P : Par} {us : Us} {m : Nat} {r u : Nat → Nat} {mk : Nat → Ms} (h : SlU w FQ q P us m r u mk) (k : Below w.heap.size w w') : SlU w' FQ q P us m r u mk := h.of_eq k.size (fun x hx => k.block x (h.lt x hx))
theorem SlR.turn {w w' : World} {FQ : Nat → Prop} {q : Nat} {P : Par} {us us' : Us} {m : Nat} {r u : Nat → Nat} {mk : Nat → Ms} {F : Nat → Prop} {vf vl : Nat → Value} {rb : Nat → Nat → Nat} (h : SlR w FQ q P us m r u mk F vf vl rb) {i : Nat} (hi : i < m) {mk' : Ms} {vf' vl' : Value} {rb' : Nat → Nat} (hp : Ro w' F q P us') (hs : Sr w' (r i) q (u i) vf' vl' rb' (fl mk') mk') (ds' : ∀ x, sft (r i) vf' vl' rb' (fl mk') x → ¬ F x) (k : Kp (fun x => F x ∨ sft (r i) (vf i) (vl i) (rb i) (fl (mk i)) x) (fun x => F x ∨ sft (r i) vf' vl' rb' (fl mk') x) w w') (lk' : Lk (u i) us' mk') (lo : ∀ j, j < m → j ≠ i → Lk (u j) us' (mk j)) (hd : ∀ j g, j < m → j ≠ i → mk' g ≠ 0 → mk j g = 0) :
    ∃ FQ', SlU w' FQ' q P us' m r u (put mk i mk') ∧ Kp FQ FQ' w w' := by
  have old : ∀ j, j < m → j ≠ i → ∀ x, sft (r j) (vf j) (vl j) (rb j) (fl (mk j)) x → ¬ (F x ∨ sft (r i) (vf i) (vl i) (rb i) (fl (mk i)) x) := fun j hj hn x hx z => by
    rcases z with z | z
    · exact h.ds j hj x hx z
    · exact h.d2 j i hj hi hn x hx z
  have nw : ∀ j, j < m → j ≠ i → ∀ x, sft (r i) vf' vl' rb' (fl mk') x → ¬ sft (r j) (vf j) (vl j) (rb j) (fl (mk j)) x := fun j hj hn x hx hz => by
    rcases k.new x (Or.inr hx) with y | y
    · exact old j hj hn x hz y
    · have := (h.sr j hj).flt x hz
      omega
  have key : SlR w' (fun x => F x ∨ ∃ j, j < m ∧ sft (r j) (put vf i vf' j) (put vl i vl' j) (put rb i rb' j) (fl (put mk i mk' j)) x) q P us' m r u (put mk i mk') F (put vf i vf') (put vl i vl') (put rb i rb') := by
    refine ⟨hp, fun j hj => ?_, fun j hj => ?_, fun j t hj ht hne => ?_, fun j hj => ?_, fun j t g hj ht hne hg => ?_, fun x => Iff.rfl⟩
    · by_cases e : j = i
      · subst e; rw [put_same, put_same, put_same, put_same]; exact hs
      · rw [put_other _ _ _ _ e, put_other _ _ _ _ e, put_other _ _ _ _ e, put_other _ _ _ _ e]
        exact (h.sr j hj).of_eq k.size (fun x hx => k.block x ((h.sr j hj).flt x hx) (old j hj e x hx))
    · by_cases e : j = i
      · subst e; rw [put_same, put_same, put_same, put_same]; exact ds'
      · rw [put_other _ _ _ _ e, put_other _ _ _ _ e, put_other _ _ _ _ e, put_other _ _ _ _ e]; exact h.ds j hj
    · by_cases e : j = i
      · subst e
        have e2 : t ≠ j := fun z => hne z.symm
        rw [put_same, put_same, put_same, put_same, put_other _ _ _ _ e2, put_other _ _ _ _ e2, put_other _ _ _ _ e2, put_other _ _ _ _ e2]
        exact nw t ht e2
      · rw [put_other _ _ _ _ e, put_other _ _ _ _ e, put_other _ _ _ _ e, put_other _ _ _ _ e]
        by_cases e2 : t = i
        · subst e2
          rw [put_same, put_same, put_same, put_same]
          exact fun x hx hz => nw j hj e x hz hx
        · rw [put_other _ _ _ _ e2, put_other _ _ _ _ e2, put_other _ _ _ _ e2, put_other _ _ _ _ e2]
          exact h.d2 j t hj ht hne
    · by_cases e : j = i
      · subst e; rw [put_same]; exact lk'
      · rw [put_other _ _ _ _ e]; exact lo j hj e
    · by_cases e : j = i
      · subst e
        rw [put_same] at hg
        rw [put_other _ _ _ _ (fun z => hne z.symm)]
        exact hd t g ht (fun z => hne z.symm) hg
      · rw [put_other _ _ _ _ e] at hg
        by_cases e2 : t = i
        · subst e2
          rw [put_same]
          by_cases q : mk' g = 0
          · exact q
          · exact absurd (hd j g hj e q) hg
        · rw [put_other _ _ _ _ e2]
          exact h.dj j t g hj ht hne hg
  refine ⟨_, ⟨F, _, _, _, key⟩, ⟨k.os, k.tape, k.output, k.size, fun x hx hn => k.block x hx (fun z => hn ?_), fun x hx => ?_⟩⟩
  · rcases z with z | z
    · exact (h.fq x).2 (Or.inl z)
    · exact (h.fq x).2 (Or.inr ⟨i, hi, z⟩)
  · rcases hx with z | ⟨j, hj, z⟩
    · exact Or.inl ((h.fq x).2 (Or.inl z))
    · by_cases e : j = i
      · subst e
        rw [put_same, put_same, put_same, put_same] at z
        rcases k.new x (Or.inr z) with (y | y) | y
        · exact Or.inl ((h.fq x).2 (Or.inl y))
        · exact Or.inl ((h.fq x).2 (Or.inr ⟨j, hj, y⟩))
        · exact Or.inr y
      · rw [put_other _ _ _ _ e, put_other _ _ _ _ e, put_other _ _ _ _ e, put_other _ _ _ _ e] at z
        exact Or.inl ((h.fq x).2 (Or.inr ⟨j, hj, z⟩))
theorem SlU.take {w : World} {FQ : Nat → Prop} {q : Nat} {P : Par} {us : Us} {m : Nat} {r u : Nat → Nat} {mk : Nat → Ms} (h : SlU w FQ q P us m r u mk) {i : Nat} (hi : i < m) : Calls Tryz.prog 34 #[.pointer (some ⟨r i, 0, none⟩)] w fun x w' => ∃ (a e : Nat) (us' : Us) (mk' : Ms) (FQ' : Nat → Prop), x = .returned (.tuple #[.int .u64 a, .int .i64 e]) ∧ TkS P (u i) us (mk i) a e us' mk' ∧ SlU w' FQ' q P us' m r u (put mk i mk') ∧ Kp FQ FQ' w w' := by
  obtain ⟨F, vf, vl, rb, h⟩ := h
  refine (rsTake_s h.ro (h.sr i hi) (h.ds i hi) (h.lk i hi)).mono ?_
  rintro x w' ⟨a, e, us', mk', vf', vl', rb', rfl, h1, h2, h3, h4, h5⟩
  obtain ⟨FQ', r1, r2⟩ := h.turn hi h2 h3 h4 h5 (h1.lk (h.lk i hi)) (fun j hj hn => lk_keep (h.lk j hj) (fun x hx => h1.keep hx)) (fun j g hj hn hg => by
    rcases h1.frm hg with z | z
    · exact h.dj i j g hi hj (fun e => hn e.symm) z
    · by_cases q : mk j g = 0
      · exact q
      · have := h.lk j hj g q
        rw [z] at this
        cases this)
  exact ⟨a, e, us', mk', FQ', rfl, h1, r1, r2⟩
theorem SlU.give {w : World} {FQ : Nat → Prop} {q : Nat} {P : Par} {us : Us} {m : Nat} {r u : Nat → Nat} {mk : Nat → Ms} (h : SlU w FQ q P us m r u mk) {i : Nat} (hi : i < m) {a e : Nat} {us' : Us} {mk' : Ms} (ha : a < 18446744073709551616) (hg : GvS (u i) us (mk i) a e us' mk') : Calls Tryz.prog 35 #[.pointer (some ⟨r i, 0, none⟩), .int .u64 a] w fun x w' => ∃ (FQ' : Nat → Prop), x = .returned (.int .i64 e) ∧ SlU w' FQ' q P us' m r u (put mk i mk') ∧ Kp FQ FQ' w w' := by
  obtain ⟨F, vf, vl, rb, h⟩ := h
  refine (rsGive_s h.ro (h.sr i hi) (h.ds i hi) (h.lk i hi) ha hg).mono ?_
  rintro x w' ⟨vf', vl', rfl, h2, h3, h4, h5⟩
  obtain ⟨FQ', r1, r2⟩ := h.turn hi h2 h3 h4 h5 (hg.lk (h.lk i hi)) (fun j hj hn g hz => by
    rw [hg.keep (h.dj j i g hj hi hn hz)]
    exact h.lk j hj g hz) (fun j g hj hn hz => h.dj i j g hi hj (fun e => hn e.symm) (hg.frm hz))
  exact ⟨FQ', rfl, r1, r2⟩
theorem SlU.ptake {w : World} {FQ : Nat → Prop} {q : Nat} {P : Par} {us : Us} {m : Nat} {r u : Nat → Nat} {mk : Nat → Ms} (h : SlU w FQ q P us m r u mk) : Calls Tryz.prog 37 #[.pointer (some ⟨q, 0, none⟩), .int .u8 2] w fun x w' => ∃ (g e : Nat) (us' : Us), x = .returned (.tuple #[.int .i64 g, .int .i64 e]) ∧ Tko P us 2 g e us' ∧ SlU w' FQ q P us' m r u mk ∧ Kp FQ FQ w w' := by
  obtain ⟨F, vf, vl, rb, h⟩ := h
  refine (rTake_use h.ro 2 (by omega) (by omega)).mono ?_
  rintro x w' ⟨g, e, us', rfl, h1, h2, k⟩
  refine ⟨g, e, us', rfl, h1, ⟨F, vf, vl, rb, { h with ro := h2, sr := fun j hj => (h.sr j hj).of_eq k.size (fun x hx => k.block x ((h.sr j hj).flt x hx) (h.ds j hj x hx)), lk := fun j hj => lk_keep (h.lk j hj) (fun x hx => h1.keep hx) }⟩, ⟨k.os, k.tape, k.output, k.size, fun x hx hn => k.block x hx (fun z => hn ((h.fq x).2 (Or.inl z))), fun x hx => Or.inl hx⟩⟩
theorem SlU.held {w : World} {FQ : Nat → Prop} {q : Nat} {P : Par} {us : Us} {m : Nat} {r u : Nat → Nat} {mk : Nat → Ms} (h : SlU w FQ q P us m r u mk) {i : Nat} (hi : i < m) : Calls Tryz.prog 38 #[.pointer (some ⟨r i, 0, none⟩)] w fun x w' => ∃ v, x = .returned v ∧ Iu w' w.heap.size v (hel (u i) (mk i)) ∧ Below w.heap.size w w' := by
  obtain ⟨F, vf, vl, rb, h⟩ := h
  exact rsHeld_s (h.sr i hi)
theorem SlU.ro {w : World} {FQ : Nat → Prop} {q : Nat} {P : Par} {us : Us} {m : Nat} {r u : Nat → Nat} {mk : Nat → Ms} (h : SlU w FQ q P us m r u mk) : ∃ F, Ro w F q P us := by
  obtain ⟨F, vf, vl, rb, h⟩ := h
  exact ⟨F, h.ro⟩
theorem SlP.add {w w' : World} {FP : Nat → Prop} {p : Nat} {P : Par} {us : Us} {m : Nat} {s b u : Nat → Nat} {mk : Nat → Ms} {F : Nat → Prop} (h : SlP w FP p P us m s b u mk F) (k : Below w.heap.size w w') {s' b' : Nat} (hs : Sl w' s' b' p (u m) (fun _ => 0)) (h1 : w.heap.size ≤ s') (h2 : w.heap.size ≤ b') : SlP w' (fun x => FP x ∨ x = s' ∨ x = b') p P us (m + 1) (put s m s') (put b m b') u (put mk m (fun _ => 0)) F := by
  have hk := h.below k
  have lt1 : ∀ i, i < m → s i < w.heap.size ∧ b i < w.heap.size := fun i hi => ⟨(h.sl i hi).lt, (h.sl i hi).mp.lt⟩
  have ne : ∀ i, i < m → i ≠ m := fun i hi => by omega
  have spl : ∀ i, i < m + 1 → i < m ∨ i = m := fun i hi => by omega
  refine ⟨hk.po, fun i hi => ?_, fun i hi => ?_, fun i j g hi hj hn hg => ?_, fun i hi => ?_, fun i j hi hj => ?_, fun i j hi hj hn => ?_, fun x => ?_⟩
  · rcases spl i hi with z | rfl
    · rw [put_other _ _ _ _ (ne i z), put_other _ _ _ _ (ne i z), put_other _ _ _ _ (ne i z)]; exact hk.sl i z
    · rw [put_same, put_same, put_same]; exact hs
  · rcases spl i hi with z | rfl
    · rw [put_other _ _ _ _ (ne i z)]; exact h.lk i z
    · rw [put_same]; exact fun g hg => absurd rfl hg
  · rcases spl i hi with z | rfl
    · rw [put_other _ _ _ _ (ne i z)] at hg
      rcases spl j hj with y | rfl
      · rw [put_other _ _ _ _ (ne j y)]; exact h.dj i j g z y hn hg
      · rw [put_same]
    · rw [put_same] at hg; exact absurd rfl hg
  · rcases spl i hi with z | rfl
    · rw [put_other _ _ _ _ (ne i z), put_other _ _ _ _ (ne i z)]; exact h.nF i z
    · rw [put_same, put_same]
      exact ⟨fun z => by have := h.po.lt _ z; omega, fun z => by have := h.po.lt _ z; omega⟩
  · rcases spl i hi with z | rfl
    · have := lt1 i z
      rw [put_other _ _ _ _ (ne i z)]
      rcases spl j hj with y | rfl
      · rw [put_other _ _ _ _ (ne j y)]; exact h.nn i j z y
      · rw [put_same]; omega
    · rw [put_same]
      rcases spl j hj with y | rfl
      · have := lt1 j y
        rw [put_other _ _ _ _ (ne j y)]; omega
      · rw [put_same]; exact hs.ne
  · rcases spl i hi with z | rfl
    · have := lt1 i z
      rw [put_other _ _ _ _ (ne i z), put_other _ _ _ _ (ne i z)]
      rcases spl j hj with y | rfl
      · rw [put_other _ _ _ _ (ne j y), put_other _ _ _ _ (ne j y)]; exact h.n2 i j z y hn
      · rw [put_same, put_same]; omega
    · rw [put_same, put_same]
      rcases spl j hj with y | rfl
      · have := lt1 j y
        rw [put_other _ _ _ _ (ne j y), put_other _ _ _ _ (ne j y)]; omega
      · exact absurd rfl hn
  · rw [h.fp]
    constructor
    · rintro ((z | ⟨i, hi, z⟩) | z)
      · exact Or.inl z
      · exact Or.inr ⟨i, by omega, by rw [put_other _ _ _ _ (ne i hi), put_other _ _ _ _ (ne i hi)]; exact z⟩
      · exact Or.inr ⟨m, by omega, by rw [put_same, put_same]; exact z⟩
    · rintro (z | ⟨i, hi, z⟩)
      · exact Or.inl (Or.inl z)
      · rcases spl i hi with y | rfl
        · rw [put_other _ _ _ _ (ne i y), put_other _ _ _ _ (ne i y)] at z
          exact Or.inl (Or.inr ⟨i, y, z⟩)
        · rw [put_same, put_same] at z
          exact Or.inr z
theorem SlU.add {w w' : World} {FQ : Nat → Prop} {q : Nat} {P : Par} {us : Us} {m : Nat} {r u : Nat → Nat} {mk : Nat → Ms} (h : SlU w FQ q P us m r u mk) (k : Below w.heap.size w w') {r' : Nat} (hs : Sr w' r' q (u m) (.slice none 0 0) (.slice none 0 0) (fun _ => 0) (fl (fun _ => 0)) (fun _ => 0)) (h1 : w.heap.size ≤ r') : SlU w' (fun x => FQ x ∨ x = r') q P us (m + 1) (put r m r') u (put mk m (fun _ => 0)) := by
  have hlt := h.lt
  obtain ⟨F, vf, vl, rb, h⟩ := h
  have spl : ∀ i, i < m + 1 → i < m ∨ i = m := fun i hi => by omega
  have ne : ∀ i, i < m → i ≠ m := fun i hi => by omega
  have sf : ∀ x, sft r' (.slice none 0 0) (.slice none 0 0) (fun _ => 0) (fl (fun _ => 0)) x ↔ x = r' := fun x => by
    constructor
    · rintro (z | z | z | ⟨g, hg, _⟩)
      · exact z
      · cases z
      · cases z
      · rw [mem_fl] at hg; exact absurd rfl hg.2
    · intro z; exact Or.inl z
  have far : ∀ i, i < m → ∀ x, sft (r i) (vf i) (vl i) (rb i) (fl (mk i)) x → x < w.heap.size := fun i hi x hx => (h.sr i hi).flt x hx
  refine ⟨F, put vf m (.slice none 0 0), put vl m (.slice none 0 0), put rb m (fun _ => 0), h.ro.below k, fun i hi => ?_, fun i hi x hx => ?_, fun i j hi hj hn x hx => ?_, fun i hi => ?_, fun i j g hi hj hn hg => ?_, fun x => ?_⟩
  · rcases spl i hi with z | rfl
    · rw [put_other _ _ _ _ (ne i z), put_other _ _ _ _ (ne i z), put_other _ _ _ _ (ne i z), put_other _ _ _ _ (ne i z), put_other _ _ _ _ (ne i z)]; exact (h.sr i z).below k
    · rw [put_same, put_same, put_same, put_same, put_same]; exact hs
  · rcases spl i hi with z | rfl
    · rw [put_other _ _ _ _ (ne i z), put_other _ _ _ _ (ne i z), put_other _ _ _ _ (ne i z), put_other _ _ _ _ (ne i z), put_other _ _ _ _ (ne i z)] at hx; exact h.ds i z x hx
    · rw [put_same, put_same, put_same, put_same, put_same, sf] at hx
      intro z
      have := h.ro.lt x z
      omega
  · rcases spl i hi with z | rfl
    · rw [put_other _ _ _ _ (ne i z), put_other _ _ _ _ (ne i z), put_other _ _ _ _ (ne i z), put_other _ _ _ _ (ne i z), put_other _ _ _ _ (ne i z)] at hx
      rcases spl j hj with y | rfl
      · rw [put_other _ _ _ _ (ne j y), put_other _ _ _ _ (ne j y), put_other _ _ _ _ (ne j y), put_other _ _ _ _ (ne j y), put_other _ _ _ _ (ne j y)]; exact h.d2 i j z y hn x hx
      · rw [put_same, put_same, put_same, put_same, put_same, sf]
        have := far i z x hx
        omega
    · rw [put_same, put_same, put_same, put_same, put_same, sf] at hx
      rcases spl j hj with y | rfl
      · rw [put_other _ _ _ _ (ne j y), put_other _ _ _ _ (ne j y), put_other _ _ _ _ (ne j y), put_other _ _ _ _ (ne j y), put_other _ _ _ _ (ne j y)]
        intro z
        have := far j y x z
        omega
      · exact absurd rfl hn
  · rcases spl i hi with z | rfl
    · rw [put_other _ _ _ _ (ne i z)]; exact h.lk i z
    · rw [put_same]; exact fun g hg => absurd rfl hg
  · rcases spl i hi with z | rfl
    · rw [put_other _ _ _ _ (ne i z)] at hg
      rcases spl j hj with y | rfl
      · rw [put_other _ _ _ _ (ne j y)]; exact h.dj i j g z y hn hg
      · rw [put_same]
    · rw [put_same] at hg; exact absurd rfl hg
  · rw [h.fq]
    constructor
    · rintro ((z | ⟨i, hi, z⟩) | z)
      · exact Or.inl z
      · exact Or.inr ⟨i, by omega, by rw [put_other _ _ _ _ (ne i hi), put_other _ _ _ _ (ne i hi), put_other _ _ _ _ (ne i hi), put_other _ _ _ _ (ne i hi), put_other _ _ _ _ (ne i hi)]; exact z⟩
      · exact Or.inr ⟨m, by omega, by rw [put_same, put_same, put_same, put_same, put_same, sf]; exact z⟩
    · rintro (z | ⟨i, hi, z⟩)
      · exact Or.inl (Or.inl z)
      · rcases spl i hi with y | rfl
        · rw [put_other _ _ _ _ (ne i y), put_other _ _ _ _ (ne i y), put_other _ _ _ _ (ne i y), put_other _ _ _ _ (ne i y), put_other _ _ _ _ (ne i y)] at z
          exact Or.inl (Or.inr ⟨i, y, z⟩)
        · rw [put_same, put_same, put_same, put_same, put_same, sf] at z
          exact Or.inr z
end Go.Proofs.YtdempgjhjcjklaaGreat.P
namespace Go.Proofs.YtdempgjhjcjklaaGreat.P
open B Go.ChangeShapes Go.WideShapes Go.ChangeAt Go.RowKit
set_option linter.unusedVariables false
set_option maxRecDepth 8192

def twoL (p q : Nat) (s r : Nat → Nat) (v : Nat → Value) : List Value := [.pointer (some ⟨p, 0, none⟩), .pointer (some ⟨q, 0, none⟩), .pointer (some ⟨s 0, 0, none⟩), .pointer (some ⟨s 1, 0, none⟩), .pointer (some ⟨r 0, 0, none⟩), .pointer (some ⟨r 1, 0, none⟩), v 0, v 1]
structure Tz (w0 w : World) (x p q : Nat) (s r u : Nat → Nat) (P : Par) (us : Us) (mk : Nat → Ms) (us' : Us) (mk' : Nat → Ms) (FP FQ : Nat → Prop) (v : Nat → Value) (l : Nat → List Int) (kb : Option (Nat × List Value)) : Prop where
  be : Below w0.heap.size w0 w
  pr : ∃ b F, SlP w FP p P us 2 s b u mk F
  rr : SlU w FQ q P us' 2 r u mk'
  bx : Blk w x 83 (twoL p q s r v)
  tl : ∀ i, i < 2 → Iu w w0.heap.size (v i) (l i)
  x0 : w0.heap.size ≤ x
  lp : ∀ y, FP y → w0.heap.size ≤ y
  lq : ∀ y, FQ y → w0.heap.size ≤ y
  d : ∀ y, FP y → ¬ FQ y
  dx : ¬ FP x ∧ ¬ FQ x
  dv : ∀ i y, i < 2 → (v i).ownBlock = some y → ¬ FP y ∧ ¬ FQ y ∧ y ≠ x
  d2 : ∀ i j y, i < 2 → j < 2 → i ≠ j → (v i).ownBlock = some y → (v j).ownBlock ≠ some y
  rg : ∀ i, i < 2 → ∀ a ∈ l i, 0 ≤ a ∧ a < 18446744073709551616
  kb : ∀ b L, kb = some (b, L) → Blk w b 42 L ∧ w0.heap.size ≤ b ∧ ¬ FP b ∧ ¬ FQ b ∧ b ≠ x ∧ ∀ i, i < 2 → (v i).ownBlock ≠ some b
theorem SlP.lt' {w : World} {FP : Nat → Prop} {p : Nat} {P : Par} {us : Us} {m : Nat} {s u : Nat → Nat} {mk : Nat → Ms} (h : ∃ b F, SlP w FP p P us m s b u mk F) : ∀ x, FP x → x < w.heap.size := by
  obtain ⟨b, F, h⟩ := h
  exact h.lt
theorem Tz.of_eq {w0 w w' : World} {x p q : Nat} {s r u : Nat → Nat} {P : Par} {us : Us} {mk : Nat → Ms} {us' : Us} {mk' : Nat → Ms} {FP FQ : Nat → Prop} {v : Nat → Value} {l : Nat → List Int} {kb : Option (Nat × List Value)} (h : Tz w0 w x p q s r u P us mk us' mk' FP FQ v l kb) (k : Below w.heap.size w w') : Tz w0 w' x p q s r u P us mk us' mk' FP FQ v l kb := by
  obtain ⟨b, F, hp⟩ := h.pr
  exact { h with
    be := h.be.trans (k.mono h.be.size)
    pr := ⟨b, F, hp.below k⟩
    rr := h.rr.below k
    bx := h.bx.of_eq (k.block x h.bx.lt)
    tl := fun i hi => (h.tl i hi).below k
    kb := fun b L e => ⟨(h.kb b L e).1.of_eq (k.block b (h.kb b L e).1.lt), (h.kb b L e).2⟩ }
theorem Tz.unbox {w0 w : World} {x p q : Nat} {s r u : Nat → Nat} {P : Par} {us : Us} {mk : Nat → Ms} {us' : Us} {mk' : Nat → Ms} {FP FQ : Nat → Prop} {v : Nat → Value} {l : Nat → List Int} {kb : Option (Nat × List Value)} (h : Tz w0 w x p q s r u P us mk us' mk' FP FQ v l kb) : Tz w0 w x p q s r u P us mk us' mk' FP FQ v l none := { h with kb := fun b L e => by cases e }
theorem Tz.box {w0 w : World} {x p q : Nat} {s r u : Nat → Nat} {P : Par} {us : Us} {mk : Nat → Ms} {us' : Us} {mk' : Nat → Ms} {FP FQ : Nat → Prop} {v : Nat → Value} {l : Nat → List Int} (h : Tz w0 w x p q s r u P us mk us' mk' FP FQ v l none) (L : List Value) : Tz w0 (w.alloc (.cells L.toArray 42)) x p q s r u P us mk us' mk' FP FQ v l (some (w.heap.size, L)) := by
  have h' := h.of_eq ((Below.refl _ w).alloc (Nat.le_refl _) (.cells L.toArray 42))
  refine { h' with kb := fun b L' e => ?_ }
  simp only [Option.some.injEq, Prod.mk.injEq] at e
  obtain ⟨rfl, rfl⟩ := e
  refine ⟨blk_new _ _ _, h.be.size, fun z => ?_, fun z => ?_, fun z => ?_, fun i hi z => ?_⟩
  · have := SlP.lt' h.pr _ z; omega
  · have := h.rr.lt _ z; omega
  · have := h.bx.lt; omega
  · have := ((h.tl i hi).lt _ z).2; omega
theorem Tz.left {w0 w w' : World} {x p q : Nat} {s r u : Nat → Nat} {P : Par} {us us2 : Us} {mk mk2 : Nat → Ms} {us' : Us} {mk' : Nat → Ms} {FP FP' FQ : Nat → Prop} {v : Nat → Value} {l : Nat → List Int} {kb : Option (Nat × List Value)} (h : Tz w0 w x p q s r u P us mk us' mk' FP FQ v l kb) (k : Kp FP FP' w w') (hp : ∃ b F, SlP w' FP' p P us2 2 s b u mk2 F) : Tz w0 w' x p q s r u P us2 mk2 us' mk' FP' FQ v l kb := by
  have out : ∀ y, y < w.heap.size → ¬ FP y → ¬ FP' y := fun y hy hn z => by
    rcases k.new y z with e | e
    · exact hn e
    · omega
  refine ⟨h.be.trans (k.below _ h.be.size h.lp), hp, h.rr.of_eq k.size (fun y hy => k.block y (h.rr.lt y hy) (fun z => h.d y z hy)), h.bx.of_eq (k.block x h.bx.lt h.dx.1), fun i hi => (h.tl i hi).of_eq (fun g hg => k.block g ((h.tl i hi).lt g hg).2 (h.dv i g hi hg).1), h.x0, fun y hy => ?_, h.lq, fun y hy hq => ?_, ⟨out x h.bx.lt h.dx.1, h.dx.2⟩, fun i y hi hy => ⟨out y ((h.tl i hi).lt y hy).2 (h.dv i y hi hy).1, (h.dv i y hi hy).2⟩, h.d2, h.rg, fun b L e => ?_⟩
  · rcases k.new y hy with z | z
    · exact h.lp y z
    · exact Nat.le_trans h.be.size z
  · exact out y (h.rr.lt y hq) (fun z => h.d y z hq) hy
  · obtain ⟨b1, b2, b3, b4⟩ := h.kb b L e
    exact ⟨b1.of_eq (k.block b b1.lt b3), b2, out b b1.lt b3, b4⟩
theorem Tz.right {w0 w w' : World} {x p q : Nat} {s r u : Nat → Nat} {P : Par} {us us2 : Us} {mk mk2 : Nat → Ms} {us' : Us} {mk' : Nat → Ms} {FP FQ FQ' : Nat → Prop} {v : Nat → Value} {l : Nat → List Int} {kb : Option (Nat × List Value)} (h : Tz w0 w x p q s r u P us mk us' mk' FP FQ v l kb) (k : Kp FQ FQ' w w') (hr : SlU w' FQ' q P us2 2 r u mk2) : Tz w0 w' x p q s r u P us mk us2 mk2 FP FQ' v l kb := by
  have out : ∀ y, y < w.heap.size → ¬ FQ y → ¬ FQ' y := fun y hy hn z => by
    rcases k.new y z with e | e
    · exact hn e
    · omega
  have plt := SlP.lt' h.pr
  obtain ⟨b0, F0, hp⟩ := h.pr
  refine ⟨h.be.trans (k.below _ h.be.size h.lq), ⟨b0, F0, hp.of_eq k.size (fun y hy => k.block y (plt y hy) (h.d y hy))⟩, hr, h.bx.of_eq (k.block x h.bx.lt h.dx.2), fun i hi => (h.tl i hi).of_eq (fun g hg => k.block g ((h.tl i hi).lt g hg).2 (h.dv i g hi hg).2.1), h.x0, h.lp, fun y hy => ?_, fun y hy => out y (plt y hy) (h.d y hy), ⟨h.dx.1, out x h.bx.lt h.dx.2⟩, fun i y hi hy => ⟨(h.dv i y hi hy).1, out y ((h.tl i hi).lt y hy).2 (h.dv i y hi hy).2.1, (h.dv i y hi hy).2.2⟩, h.d2, h.rg, fun b L e => ?_⟩
  · rcases k.new y hy with z | z
    · exact h.lq y z
    · exact Nat.le_trans h.be.size z
  · obtain ⟨b1, b2, b3, b4, b5⟩ := h.kb b L e
    exact ⟨b1.of_eq (k.block b b1.lt b4), b2, b3, out b b1.lt b4, b5⟩
theorem Tz.cells {w0 w : World} {x p q : Nat} {s r u : Nat → Nat} {P : Par} {us : Us} {mk : Nat → Ms} {us' : Us} {mk' : Nat → Ms} {FP FQ : Nat → Prop} {v : Nat → Value} {l : Nat → List Int} {kb : Option (Nat × List Value)} (h : Tz w0 w x p q s r u P us mk us' mk' FP FQ v l kb) : w.cell? ⟨x, 0, none⟩ = some (.pointer (some ⟨p, 0, none⟩)) ∧ w.cell? ⟨x, 1, none⟩ = some (.pointer (some ⟨q, 0, none⟩)) ∧ ∀ i, i < 2 → w.cell? ⟨x, 2 + i, none⟩ = some (.pointer (some ⟨s i, 0, none⟩)) ∧ w.cell? ⟨x, 4 + i, none⟩ = some (.pointer (some ⟨r i, 0, none⟩)) ∧ w.cell? ⟨x, 6 + i, none⟩ = some (v i) := by
  have c := h.bx.cell
  refine ⟨by rw [c]; rfl, by rw [c]; rfl, fun i hi => ?_⟩
  rcases (show i = 0 ∨ i = 1 by omega) with rfl | rfl
  · exact ⟨by rw [c]; rfl, by rw [c]; rfl, by rw [c]; rfl⟩
  · exact ⟨by rw [c]; rfl, by rw [c]; rfl, by rw [c]; rfl⟩
theorem Tz.dcells {w0 w : World} {x p q : Nat} {s r u : Nat → Nat} {P : Par} {us : Us} {mk : Nat → Ms} {us' : Us} {mk' : Nat → Ms} {FP FQ : Nat → Prop} {v : Nat → Value} {l : Nat → List Int} {b : Nat} {y z t : Value} (h : Tz w0 w x p q s r u P us mk us' mk' FP FQ v l (some (b, [y, z, t]))) : w.cell? ⟨b, 0, none⟩ = some y ∧ w.cell? ⟨b, 1, none⟩ = some z ∧ w.cell? ⟨b, 2, none⟩ = some t := by
  have c := (h.kb b _ rfl).1.cell
  exact ⟨by rw [c]; rfl, by rw [c]; rfl, by rw [c]; rfl⟩
theorem twoL_set (p q : Nat) (s r : Nat → Nat) (v : Nat → Value) {i : Nat} (hi : i < 2) (y : Value) : (twoL p q s r v).set (6 + i) y = twoL p q s r (put v i y) := by
  rcases (show i = 0 ∨ i = 1 by omega) with rfl | rfl <;> simp [twoL, put]
theorem Tz.told {w0 w w1 : World} {x p q : Nat} {s r u : Nat → Nat} {P : Par} {us : Us} {mk : Nat → Ms} {us' : Us} {mk' : Nat → Ms} {FP FQ : Nat → Prop} {v : Nat → Value} {l : Nat → List Int} {kb : Option (Nat × List Value)} (h : Tz w0 w x p q s r u P us mk us' mk' FP FQ v l kb) {i : Nat} (hi : i < 2) {g n c : Nat} {a : Int} (ha : 0 ≤ a ∧ a < 18446744073709551616) (gr : w.grownBy w1 (v i).ownBlock) (oa : Iu w1 w0.heap.size (.slice (some ⟨g, 0, none⟩) n c) (l i ++ [a])) (hv : (v i).ownBlock = some g ∨ w.heap.size ≤ g) :
    Tz w0 (w1.setCell ⟨x, 6 + i, none⟩ (.slice (some ⟨g, 0, none⟩) n c)) x p q s r u P us mk us' mk' FP FQ (put v i (.slice (some ⟨g, 0, none⟩) n c)) (put l i (l i ++ [a])) kb := by
  have G2 := grown_setCell' w1 x (6 + i) (.slice (some ⟨g, 0, none⟩) n c)
  have s1 := gr.size
  have plt := SlP.lt' h.pr
  have hxl := h.bx.lt
  have b1 : w1.heap[x]? = w.heap[x]? := gr.block x h.bx.lt (fun e => (h.dv i x hi e.symm).2.2 rfl)
  have far : ∀ y, y < w.heap.size → y ≠ x → (v i).ownBlock ≠ some y → (w1.setCell ⟨x, 6 + i, none⟩ (.slice (some ⟨g, 0, none⟩) n c)).heap[y]? = w.heap[y]? := fun y hy hx hn => (G2.block y (by omega) (some_ne hx)).trans (gr.block y hy (fun e => hn e.symm))
  have hg : ∀ y, (v i).ownBlock ≠ some y → y < w.heap.size → g ≠ y := fun y h1 h2 e => by
    subst e
    rcases hv with z | z
    · exact h1 z
    · omega
  have hgx : g ≠ x := hg x (fun e => (h.dv i x hi e).2.2 rfl) h.bx.lt
  have hg0 : w0.heap.size ≤ g := (oa.lt g rfl).1
  obtain ⟨b0, F0, hp⟩ := h.pr
  have nb : ∀ y, FP y → (v i).ownBlock ≠ some y := fun y hy e => (h.dv i y hi e).1 hy
  have nq : ∀ y, FQ y → (v i).ownBlock ≠ some y := fun y hy e => (h.dv i y hi e).2.1 hy
  have pc : ∀ j y, j < 2 → (put v i (.slice (some ⟨g, 0, none⟩) n c) j).ownBlock = some y → (j = i ∧ y = g) ∨ (j ≠ i ∧ (v j).ownBlock = some y) := fun j y hj e => by
    by_cases z : j = i
    · subst z
      rw [put_same] at e
      obtain rfl : g = y := by simpa [Value.ownBlock] using e
      exact Or.inl ⟨rfl, rfl⟩
    · rw [put_other _ _ _ _ z] at e
      exact Or.inr ⟨z, e⟩
  refine ⟨h.be.trans ((below_of gr _ h.be.size (fun k hk => ((h.tl i hi).lt k hk).1)).trans (below_of G2 _ (Nat.le_trans h.be.size s1) (fun k hk => by cases hk; exact h.x0))), ⟨b0, F0, hp.of_eq (Nat.le_trans s1 G2.size) (fun y hy => far y (plt y hy) (fun e => h.dx.1 (e ▸ hy)) (nb y hy))⟩, h.rr.of_eq (Nat.le_trans s1 G2.size) (fun y hy => far y (h.rr.lt y hy) (fun e => h.dx.2 (e ▸ hy)) (nq y hy)), ?_, fun j hj => ?_, h.x0, h.lp, h.lq, h.d, h.dx, fun j y hj hy => ?_, fun j t y hj ht hne hy hz => ?_, fun j hj => ?_, fun b L e => ?_⟩
  · rw [← twoL_set p q s r v hi]
    exact (h.bx.of_eq b1).set (6 + i) _
  · by_cases z : j = i
    · subst z
      rw [put_same, put_same]
      exact oa.of_eq (fun y hy => G2.block y (oa.lt y hy).2 (some_ne (fun e => by
        obtain rfl : g = y := by simpa [Value.ownBlock] using hy
        exact hgx e)))
    · rw [put_other _ _ _ _ z, put_other _ _ _ _ z]
      exact (h.tl j hj).of_eq (fun y hy => far y ((h.tl j hj).lt y hy).2 (h.dv j y hj hy).2.2 (h.d2 j i y hj hi z hy))
  · rcases pc j y hj hy with ⟨_, rfl⟩ | ⟨_, z⟩
    · refine ⟨fun z => ?_, fun z => ?_, hgx⟩
      · exact hg y (nb y z) (plt y z) rfl
      · exact hg y (nq y z) (h.rr.lt y z) rfl
    · exact h.dv j y hj z
  · rcases pc j y hj hy with ⟨rfl, rfl⟩ | ⟨z1, z⟩
    · rcases pc t y ht hz with ⟨rfl, _⟩ | ⟨z2, z3⟩
      · exact hne rfl
      · exact hg y (h.d2 t j y ht hj z2 z3) ((h.tl t ht).lt y z3).2 rfl
    · rcases pc t y ht hz with ⟨rfl, rfl⟩ | ⟨z2, z3⟩
      · exact hg y (h.d2 j t y hj ht z1 z) ((h.tl j hj).lt y z).2 rfl
      · exact h.d2 j t y hj ht hne z z3
  · by_cases z : j = i
    · subst z
      rw [put_same]
      intro y hy
      rw [List.mem_append, List.mem_singleton] at hy
      rcases hy with hy | hy
      · exact h.rg j hj y hy
      · rw [hy]; exact ha
    · rw [put_other _ _ _ _ z]
      exact h.rg j hj
  · obtain ⟨k1, k2, k3, k4, k5, k6⟩ := h.kb b L e
    refine ⟨k1.of_eq (far b k1.lt k5 (k6 i hi)), k2, k3, k4, k5, fun j hj z => ?_⟩
    rcases pc j b hj z with ⟨_, rfl⟩ | ⟨_, z⟩
    · exact hg b (k6 i hi) k1.lt rfl
    · exact k6 j hj z
end Go.Proofs.YtdempgjhjcjklaaGreat.P
