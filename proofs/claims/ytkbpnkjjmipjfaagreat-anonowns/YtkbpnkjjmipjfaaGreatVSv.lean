/- What a slab's Held gives back: the addresses of all places that are taken, rising; no condition but those that each theorem names. -/
import Derived.Test.YtkbpnkjjmipjfaaGreatVSb
import Derived.Test.YtkbpnkjjmipjfaaGreatVUy
namespace Go.Proofs.YtkbpnkjjmipjfaaGreat.P
open B Go.ChangeShapes Go.WideShapes Go.ChangeAt Go.RowKit
set_option linter.unusedVariables false
set_option maxRecDepth 8192

theorem Tryz.infoU64 : (Tryz.prog.info? 22).map (fun i => (i.zero, i.size, i.bytes)) = some (some (.int .u64 0), 1, 8) := by kernel_rfl
def Iu (w : World) (base : Nat) (v : Value) (l : List Int) : Prop := w.ownsRow base 22 1 v l.length (U.vs l)
theorem Iu.nil (w : World) (base : Nat) : Iu w base (.slice none 0 0) [] := World.ownsRow_nil _ _ _ _
theorem Iu.less {w : World} {base base' : Nat} {v : Value} {l : List Int} (h : Iu w base v l) (hb : base' ≤ base) : Iu w base' v l := by
  rcases h with ⟨h0, h⟩
  refine ⟨h0, ?_⟩
  rcases h with h | ⟨g, cap, cur, h1, h2, h3⟩
  · exact Or.inl h
  · exact Or.inr ⟨g, cap, cur, h1, Nat.le_trans hb h2, h3⟩
theorem Iu.of_eq {w w' : World} {base : Nat} {v : Value} {l : List Int} (h : Iu w base v l) (e : ∀ g, v.ownBlock = some g → w'.heap[g]? = w.heap[g]?) : Iu w' base v l := by
  refine ⟨h.1, ?_⟩
  rcases h.2 with h1 | ⟨g, cap, cur, h1, h2, h3, h4⟩
  · exact Or.inl h1
  · subst h1
    exact Or.inr ⟨g, cap, cur, rfl, h2, (e g rfl).trans h3, h4⟩
theorem Iu.lt {w : World} {base : Nat} {v : Value} {l : List Int} (h : Iu w base v l) : ∀ g, v.ownBlock = some g → base ≤ g ∧ g < w.heap.size := by
  intro g hg
  rcases h.2 with ⟨h1, _⟩ | ⟨g', cap, cur, h1, h2, h3, _⟩
  · rw [h1] at hg; cases hg
  · rw [h1] at hg
    cases hg
    exact ⟨h2, (Array.getElem?_eq_some_iff.1 h3).1⟩
theorem vs_snoc (l : List Int) (x : Int) : U.vs (l ++ [x]) = U.vs l ++ [.int .u64 x] := by simp [U.vs]
theorem iu_snoc {w : World} {base : Nat} {v : Value} {l : List Int} {x : Int} (h : w.ownsRow base 22 1 v (l.length + 1) (U.vs l ++ [.int .u64 x])) : Iu w base v (l ++ [x]) := by
  unfold Iu
  rw [vs_snoc, List.length_append]
  exact h
def adr (u g x : Nat) : List Int := ((List.range (pn u)).filter fun i => x.testBit i).map fun i => ((256 * g + i * sz u : Nat) : Int)
def hel (u : Nat) (mk : Ms) : List Int := (List.range 4096).flatMap fun g => adr u g (mk g)
theorem mem_adr {u g x : Nat} {a : Int} : a ∈ adr u g x ↔ ∃ i, i < pn u ∧ x.testBit i = true ∧ a = ((256 * g + i * sz u : Nat) : Int) := by
  unfold adr
  simp only [List.mem_map, List.mem_filter, List.mem_range]
  constructor
  · rintro ⟨i, ⟨h1, h2⟩, rfl⟩; exact ⟨i, h1, h2, rfl⟩
  · rintro ⟨i, h1, h2, rfl⟩; exact ⟨i, ⟨h1, h2⟩, rfl⟩
theorem mem_hel {u : Nat} {mk : Ms} {a : Int} : a ∈ hel u mk ↔ ∃ g i, g < 4096 ∧ i < pn u ∧ (mk g).testBit i = true ∧ a = ((256 * g + i * sz u : Nat) : Int) := by
  unfold hel
  simp only [List.mem_flatMap, List.mem_range, mem_adr]
  constructor
  · rintro ⟨g, h1, i, h2⟩; exact ⟨g, i, h1, h2⟩
  · rintro ⟨g, i, h1, h2⟩; exact ⟨g, h1, i, h2⟩
theorem adr_sorted (u g x : Nat) : (adr u g x).Pairwise (· < ·) := by
  unfold adr
  rw [List.pairwise_map]
  refine List.Pairwise.imp ?_ (List.Pairwise.filter _ (List.pairwise_lt_range (n := pn u)))
  intro i j hij
  have hz := sz_le u
  have := Nat.mul_lt_mul_of_pos_right hij (show 0 < sz u by omega)
  omega
theorem hel_sorted (u : Nat) (mk : Ms) : (hel u mk).Pairwise (· < ·) := by
  unfold hel
  rw [List.pairwise_flatMap]
  refine ⟨fun g _ => adr_sorted u g (mk g), List.Pairwise.imp ?_ (List.pairwise_lt_range (n := 4096))⟩
  intro g g' hg a ha a' ha'
  obtain ⟨i, h1, _, rfl⟩ := mem_adr.1 ha
  obtain ⟨i', h1', _, rfl⟩ := mem_adr.1 ha'
  have := place_lt h1
  have hz := sz_le u
  omega
theorem nodup_of_lt {l : List Int} (h : l.Pairwise (· < ·)) : l.Nodup := h.imp (fun q => by omega)
theorem hel_eq {u : Nat} {mk : Ms} {l l' : List Int} (hn : l.Nodup) (hm : ∀ a, a ∈ l ↔ a ∈ hel u mk) (hp : l'.Perm l) (hs : l'.Pairwise (· ≤ ·)) : l' = hel u mk := by
  have h1 : l'.Perm (hel u mk) := hp.trans ((List.perm_ext_iff_of_nodup hn (nodup_of_lt (hel_sorted u mk))).2 hm)
  exact h1.eq_of_pairwise (fun a b _ _ h h' => by omega) hs ((hel_sorted u mk).imp (fun q => by omega))
theorem addr_inj {u g i g' i' : Nat} (h : i < pn u) (h' : i' < pn u) (e : 256 * g + i * sz u = 256 * g' + i' * sz u) : g = g' ∧ i = i' := by
  have h1 := place_lt h
  have h2 := place_lt h'
  have hs := sz_le u
  have eg : g = g' := by omega
  refine ⟨eg, ?_⟩
  subst eg
  have : i * sz u = i' * sz u := by omega
  exact Nat.eq_of_mul_eq_mul_right (by omega) this
def Col (u : Nat) (mk : Ms) (left : Lit → Bool) (l : List Int) : Prop := l.Nodup ∧ ∀ a, a ∈ l ↔ ∃ g i : Nat, left (.int .i64 (g : Int)) = false ∧ i < pn u ∧ (mk g).testBit i = true ∧ a = ((256 * g + i * sz u : Nat) : Int)
def Cok (u : Nat) (l : List Int) (g x k : Nat) (l2 : List Int) : Prop := l2.Nodup ∧ ∀ a, a ∈ l2 ↔ a ∈ l ∨ ∃ i : Nat, i < k ∧ x.testBit i = true ∧ a = ((256 * g + i * sz u : Nat) : Int)
theorem cok_start (u : Nat) {l : List Int} (h : l.Nodup) (g x : Nat) : Cok u l g x 0 l := ⟨h, fun a => by simp⟩
theorem cok_skip {u : Nat} {l l2 : List Int} {g x k : Nat} (h : Cok u l g x k l2) (hb : x.testBit k = false) : Cok u l g x (k + 1) l2 := by
  refine ⟨h.1, fun a => (h.2 a).trans ?_⟩
  constructor
  · rintro (z | ⟨i, z1, z2, z3⟩)
    · exact Or.inl z
    · exact Or.inr ⟨i, by omega, z2, z3⟩
  · rintro (z | ⟨i, z1, z2, z3⟩)
    · exact Or.inl z
    · refine Or.inr ⟨i, ?_, z2, z3⟩
      have : i ≠ k := fun e => by rw [e, hb] at z2; cases z2
      omega
theorem cok_more {u : Nat} {l l2 : List Int} {g x k : Nat} (h : Cok u l g x k l2) (hb : x.testBit k = true) (hk : k < pn u) (hl : ((256 * g + k * sz u : Nat) : Int) ∉ l) : Cok u l g x (k + 1) (l2 ++ [((256 * g + k * sz u : Nat) : Int)]) := by
  refine ⟨?_, fun a => ?_⟩
  · rw [List.nodup_append]
    refine ⟨h.1, by simp, fun a ha b hb' => ?_⟩
    simp only [List.mem_singleton] at hb'
    rw [hb']
    intro e
    subst e
    rcases (h.2 _).1 ha with z | ⟨i, z1, z2, z3⟩
    · exact hl z
    · have := (addr_inj (u := u) (g := g) (g' := g) hk (show i < pn u by omega) (by omega)).2
      omega
  · rw [List.mem_append, h.2 a]
    simp only [List.mem_singleton]
    constructor
    · rintro ((z | ⟨i, z1, z2, z3⟩) | z)
      · exact Or.inl z
      · exact Or.inr ⟨i, by omega, z2, z3⟩
      · exact Or.inr ⟨k, by omega, hb, z⟩
    · rintro (z | ⟨i, z1, z2, z3⟩)
      · exact Or.inl (Or.inl z)
      · by_cases e : i = k
        · subst e; exact Or.inr z3
        · exact Or.inl (Or.inr ⟨i, by omega, z2, z3⟩)
theorem col_next {u : Nat} {mk : Ms} {left : Lit → Bool} {l l2 : List Int} {g : Nat} (h : Col u mk left l) (h2 : Cok u l g (mk g) (pn u) l2) : Col u mk (fun z => left z && !z.sameKey (.int .i64 (g : Int))) l2 := by
  refine ⟨h2.1, fun a => ?_⟩
  have hl : ∀ x : Nat, (left (.int .i64 (x : Int)) && !(Lit.int .i64 (x : Int)).sameKey (.int .i64 (g : Int))) = false ↔ left (.int .i64 (x : Int)) = false ∨ x = g := fun x => by
    by_cases e : x = g
    · subst e
      simp [Lit.sameKey]
    · have : ¬ (x : Int) = g := by omega
      cases left (.int .i64 (x : Int)) <;> simp [Lit.sameKey, e, this]
  rw [h2.2 a, h.2 a]
  constructor
  · rintro (⟨x, i, z1, z2⟩ | ⟨i, z1, z2, z3⟩)
    · exact ⟨x, i, (hl x).2 (Or.inl z1), z2⟩
    · exact ⟨g, i, (hl g).2 (Or.inr rfl), z1, z2, z3⟩
  · rintro ⟨x, i, z1, z2, z3, z4⟩
    rcases (hl x).1 z1 with z | z
    · exact Or.inl ⟨x, i, z, z2, z3, z4⟩
    · subst z
      exact Or.inr ⟨i, z2, z3, z4⟩
set_option maxHeartbeats 2000000 in
theorem SHeld_s {w : World} {s b p u : Nat} {mk : Ms} (h : Sl w s b p u mk) : Calls Tryz.prog 83 #[.pointer (some ⟨s, 0, none⟩)] w fun e w' => ∃ v : Value, e = .returned v ∧ Iu w' w.heap.size v (hel u mk) ∧ Below w.heap.size w w' := by
  obtain ⟨D, ho, hv⟩ := h.mp
  have hbl := h.mp.lt
  have hsz := map_size ho hv
  have HV : Hid (Vw D 4096 (om mk)) := hv
  have HS : Hid (Sl w s b p u mk) := h
  have hc3 := h.c3
  have C1 : Hid (Calls _ _ _ _ _) := smade_s h
  have hp16 := pn_le u
  obtain ⟨i0, hi0, hz0, hz1, hz2⟩ := info_parts Tryz.infoU64
  have U16 : Hid (∀ k, k < 16 → IntKind.u16.wrap ((2 : Int) ^ k) = ((2 ^ k : Nat) : Int)) := fun k hk => shl_u16 hk
  clear h hv
  go_enter Tryz.func83, Tryz.ntmps83
  go_wp2_with (first | (go_at_call 111; refine C1.out.mono ?_; rintro e w' ⟨rfl, h⟩; obtain rfl := h.symm) | (at_range; refine wpList_range_own _ rfl _ 122 rfl 3 217 keyed Tryz.underlying122 _ b 4096 D rfl ho ?_; intro w0 hrg0 hg0 hs0) | go_in)
  go_frame
  go_loopw [3, 4] (fun v _ wr => ∃ (left : Lit → Bool) (cnt : Nat) (l : List Int) (vv : Value), vv = v ∧ wr.ranges Tryz.prog 3 Rv b w.heap.size 4096 D left cnt ∧ Iu wr (w.heap.size + 1) v l ∧ Col u mk left l ∧ l.length + 16 * cnt ≤ 65536 ∧ Below w.heap.size w wr) (fun _ _ wr => wr.rangeLeft b w.heap.size)
  case atStart =>
    refine ⟨_, _, [], _, rfl, hrg0, Iu.nil _ _, ⟨List.nodup_nil, fun a => ?_⟩, by simp; omega, below_of hg0 _ (Nat.le_refl _) (by simp)⟩
    constructor
    · intro z; cases z
    · rintro ⟨g, i, z1, z2, z3, rfl⟩
      have hz : mk g ≠ 0 := fun q => by rw [q] at z3; simp at z3
      have := (HV.out.has g).2 ⟨g, mk g, rfl, om_some.2 ⟨rfl, hz⟩⟩
      rw [this] at z1
      cases z1
  case round =>
    obtain ⟨left, cnt, l, v, hvv, hrg, hI, hm, hlc, hB⟩ := hrel
    subst hvv
    have HI : Hid (Iu wr (w.heap.size + 1) v l) := hI
    have HM : Hid (Col u mk left l) := hm
    have HB : Hid (Below w.heap.size w wr) := hB
    have HRG : Hid (wr.ranges Tryz.prog 3 Rv b w.heap.size 4096 D left cnt) := hrg
    clear hI hm hB hrg hrg0 hg0
    go_wp2_with (first | (at_next; refine wpList_next_ranges _ rfl _ rfl 3 keyed Rv (Value.int .i64) (fun v : Value => v) (fun key kl hk => by obtain ⟨x, e, _⟩ := Maps.keyOf_int_inv Tryz.underlying3 hk; exact ⟨x, e⟩) (fun v y _ => ⟨v, rfl⟩) b w.heap.size 4096 _ _ _ rfl HRG.out ?_ ?_) | go_in)
    · intro _ hl0
      have CS : Hid (Calls _ _ _ _ _) := U.sort_any HI.out (by omega)
      go_wp2_with fail
      refine CS.out.mono ?_
      rintro e w2 ⟨l', rfl, s1, s2, s3, s4⟩
      have HE : Hid (l' = hel u mk) := hel_eq HM.out.1 (fun a => by
        rw [HM.out.2 a, mem_hel]
        constructor
        · rintro ⟨g, i, z1, z2, z3, z4⟩
          have hz : mk g ≠ 0 := fun q => by rw [q] at z3; simp at z3
          exact ⟨g, i, HS.out.fr hz, z2, z3, z4⟩
        · rintro ⟨g, i, z1, z2, z3, z4⟩
          exact ⟨g, i, hl0 _, z2, z3, z4⟩) s1 s2
      have S3 : Hid (Iu w2 (w.heap.size + 1) v l') := s3
      have HB2 : Hid (Below w.heap.size w w2) := HB.out.trans (below_of s4 _ HB.out.size (fun k hk => by have := (HI.out.lt k hk).1; omega))
      clear s1 s2 s3 s4 CS
      go_wp2
      go_ret
      exact ⟨v, rfl, by rw [← HE.out]; exact S3.out.less (by omega), HB2.out⟩
    · intro x c kl y1 y2 w1 cnt1 hkey hlk hR hat hrg1 hlt hg1 hs1 hen
      obtain ⟨rfl, g, hh, rfl, hgm, hh0, rfl⟩ := entry_is (y := (y1, y2)) HV.out hkey hR hat
      have HRG1 : Hid (w1.ranges Tryz.prog 3 Rv b w.heap.size 4096 D (fun z => left z && !z.sameKey (.int .i64 (g : Int))) cnt1) := hrg1
      have HI1 : Hid (Iu w1 (w.heap.size + 1) v l) := HI.out.of_eq (fun k hk => hg1.block k (HI.out.lt k hk).2 (by have := (HI.out.lt k hk).1; intro z; injection z with z; omega))
      have HB1 : Hid (Below w.heap.size w w1) := HB.out.trans (below_of hg1 _ HB.out.size (by intro k z; injection z with z; omega))
      have hg4 : g < 4096 := HS.out.fr (by rw [hgm]; exact hh0)
      have hh16 : hh < 65536 := by rw [← hgm]; exact Nat.lt_of_lt_of_le (HS.out.ml g) (two_pn u)
      have HGM : Hid (mk g = hh) := hgm
      have HNL : Hid (∀ k, k < pn u → ((256 * g + k * sz u : Nat) : Int) ∉ l) := fun k hk z => by
        obtain ⟨g', i', z1, z2, z3, z4⟩ := (HM.out.2 _).1 z
        obtain ⟨rfl, _⟩ := addr_inj (u := u) (g := g) (g' := g') hk z2 (by omega)
        rw [hlk] at z1
        cases z1
      have HLT : Hid (cnt1 < cnt) := hlt
      have CP : Hid (Calls _ _ _ _ _) := places_s (HS.out.below HB1.out)
      clear hkey hlk hR hat hrg1 hg1 hgm HI HB hlt
      go_wp2_with fail
      refine CP.out.mono ?_
      rintro e w2 ⟨rfl, hw2⟩
      obtain rfl := hw2.symm
      clear hw2 CP hen
      go_wp2
      go_loopw [22, 3] (fun z v2 wy => ∃ (k : Nat) (l2 : List Int) (vv : Value), z = .int .i64 k ∧ vv = v2 ∧ k ≤ pn u ∧ wy.ranges Tryz.prog 3 Rv b w.heap.size 4096 D (fun z => left z && !z.sameKey (.int .i64 (g : Int))) cnt1 ∧ Iu wy (w.heap.size + 1) v2 l2 ∧ Cok u l g hh k l2 ∧ l2.length ≤ l.length + k ∧ Below w.heap.size w wy) (fun z _ _ => pn u - (B.iv z).toNat)
      case atStart => exact ⟨0, l, _, rfl, rfl, by omega, HRG1.out, HI1.out, cok_start u HM.out.1 g hh, by omega, HB1.out⟩
      case round =>
        clear HRG1 HI1 HB1
        obtain ⟨k, l2, v2, rfl, hvv, h1, h2, h3, h4, h5, h6⟩ := hrel
        subst hvv
        have R2 : Hid (wr.ranges Tryz.prog 3 Rv b w.heap.size 4096 D (fun z => left z && !z.sameKey (.int .i64 (g : Int))) cnt1) := h2
        have I3 : Hid (Iu wr (w.heap.size + 1) v2 l2) := h3
        have K4 : Hid (Cok u l g hh k l2) := h4
        have B6 : Hid (Below w.heap.size w wr) := h6
        clear h2 h3 h4 h6
        by_cases hk : k < pn u
        · have hkI : (k : Int) < (pn u : Int) := by omega
          have hsh := U16.out k (by omega)
          have hab := and_bit (x := hh) (i := k) hh16 (by omega)
          have hpos : 0 < 2 ^ k := Nat.two_pow_pos k
          have CA : Hid (Calls _ _ _ _ _) := address_s (HS.out.below B6.out) g k hg4 hk
          obtain ⟨pw, hpw⟩ : ∃ pw : Nat, 2 ^ k = pw := ⟨_, rfl⟩
          rw [hpw] at hsh hab hpos
          clear hpw
          cases hb : hh.testBit k
          · rw [hb] at hab
            simp only [Bool.false_eq_true, if_false] at hab
            have HK5 : Hid (Cok u l g hh (k + 1) l2) := cok_skip K4.out hb
            clear hb CA
            go_wp2
            go_roundw
            case rel => exact ⟨k + 1, l2, _, by go_num, rfl, by omega, R2.out, I3.out, HK5.out, by omega, B6.out⟩
            case measure => simp [B.iv]; omega
          · rw [hb] at hab
            simp only [if_true] at hab
            have HK5 : Hid (Cok u l g hh (k + 1) (l2 ++ [((256 * g + k * sz u : Nat) : Int)])) := cok_more K4.out hb hk (HNL.out k hk)
            have hz : ((pw : Int) == 0) = false := by simp; omega
            have hzn : ((pw : Int) != 0) = true := by simp; omega
            have hz3 : ¬ (pw : Int) = 0 := by omega
            have hsz2 := B6.out.size
            have hw2s : w.heap.size + 1 ≤ wr.heap.size := R2.out.lt
            generalize 256 * g + k * sz u = ad at *
            clear hb
            go_wp2_with fail
            refine CA.out.mono ?_
            rintro e w3 ⟨rfl, hw3⟩
            obtain rfl := hw3.symm
            clear hw3 CA
            go_wp2_with (at_builtin; refine wpList_append_own _ rfl (.tmp 30) (.tmp 35) 152 rfl (w.heap.size + 1) 22 i0 _ 1 8 Tryz.underlying152 hi0 hz0 hz1 hz2 rfl (by decide) _ l2.length _ rfl (World.ownsRow.alloc I3.out _) ⟨wr.heap.size, 0, none⟩ 1 1 [.int .u64 (ad : Nat)] rfl rfl (cell_one_new _ _ _) (by intro u hu; simp at hu; subst hu; rfl) (by unfold maxLen; omega) (by omega) (by simp; omega) ?_; intro v4 w4 o4 gr4 nil4)
            go_roundw
            case rel =>
              have hg : wr.grownBy w4 v2.ownBlock := (World.grownBy_alloc _ _ _).trans gr4
              have hown : ∀ k, v2.ownBlock = some k → w.heap.size + 1 ≤ k := fun k hk => (I3.out.lt k hk).1
              refine ⟨k + 1, l2 ++ [(ad : Int)], _, by go_num, rfl, by omega, R2.out.kept hg (fun z => ?_) (fun z => ?_), iu_snoc o4, HK5.out, by rw [List.length_append]; simp; omega, B6.out.trans (below_of hg _ B6.out.size (fun k hk => by have := hown k hk; omega))⟩
              · have := hown b z.symm; omega
              · have := hown _ z.symm; omega
            case measure => simp [B.iv]; omega
        · obtain rfl : k = pn u := by omega
          have HC : Hid (Col u mk (fun z => left z && !z.sameKey (.int .i64 (g : Int))) l2) := col_next HM.out (by rw [HGM.out]; exact K4.out)
          have hlt2 := HLT.out
          go_wp2
          go_roundw
          case rel => exact ⟨_, cnt1, l2, _, rfl, R2.out, I3.out, HC.out, by omega, B6.out⟩
          case measure => rw [R2.out.left_eq, HRG.out.left_eq]; exact HLT.out
end Go.Proofs.YtkbpnkjjmipjfaaGreat.P
