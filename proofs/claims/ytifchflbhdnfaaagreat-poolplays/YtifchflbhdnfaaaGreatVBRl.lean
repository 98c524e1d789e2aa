/- What the reference's Lists gives back: the greatest open blocks, going from the least place on, in new memory; no condition but the ranges that each theorem names. -/
import Derived.Test.YtifchflbhdnfaaaGreatVBRf
import Derived.Test.YtifchflbhdnfaaaGreatVBe
namespace Go.Proofs.YtifchflbhdnfaaaGreat.B
open Go.ChangeShapes Go.WideShapes Go.ChangeAt Go.RowKit
set_option linter.unusedVariables false
set_option maxRecDepth 8192

theorem sorted_len : ∀ (l : List Nat) (b a : Nat), l.Pairwise (· < ·) → (∀ x ∈ l, b ≤ x ∧ x < a) → b + l.length ≤ a ∨ l = []
  | [], _, _, _, _ => Or.inr rfl
  | x :: l, b, a, h, hx => by
    have h' := List.pairwise_cons.1 h
    have h1 := hx x (by simp)
    rcases sorted_len l (x + 1) a h'.2 (fun y hy => ⟨h'.1 y hy, (hx y (List.mem_cons_of_mem _ hy)).2⟩) with q | q
    · left
      simp
      omega
    · left
      subst q
      simp
      omega
theorem sorted_le {l : List Nat} {a : Nat} (h : l.Pairwise (· < ·)) (hx : ∀ x ∈ l, x < a) : l.length ≤ a := by
  rcases sorted_len l 0 a h (fun x hq => ⟨Nat.zero_le _, hx x hq⟩) with q | q
  · omega
  · subst q; simp
theorem Sc.len {op : Nat → Bool} {a : Nat} {M : Nat → List Nat} (h : Sc op a M) (k : Nat) (hk : k ≤ 6) : (M k).length ≤ a :=
  sorted_le (h.up k hk) (fun x hx => ((h.mem k hk x).1 hx).2.2)
/-- What the loop has. -/
def Sst (w wr : World) (g : Nat) (op : Nat → Bool) (n a : Nat) : Prop := a ≤ n ∧ ∃ M, Sc op a M ∧ ∃ F V, Rws wr F g 7 (fun i => ints (M i)) V ∧ (∀ b, F b → w.heap.size ≤ b) ∧ w.grownBy wr none
theorem make7 (w : World) : (Instr.makeSlice 111 (.int .i64 7) (.int .i64 7)).run Tryz.prog w = .ok (.slice (some ⟨w.heap.size, 0, none⟩) 7 7) (w.alloc (.cells (List.replicate 7 (.slice none 0 0)).toArray 25)) := by
  obtain ⟨i0, hi, hz0, hz1, hz2⟩ := info_parts Tryz.infoS
  have h := run_makeSlice (P := Tryz.prog) w 111 25 i0 (.slice none 0 0) Tryz.underlying111 hi hz0 .i64 .i64 7 7 (by omega) (by omega) (by rw [hz1]; simp) (by rw [hz2]; omega) (by omega)
  rw [h]
  have e : madeCells (Value.slice none 0 0).cells ((7 : Int).toNat * i0.size) = (List.replicate 7 (.slice none 0 0)).toArray := by
    apply Array.toList_inj.1
    rw [hz1]
    show (madeCells #[.slice none 0 0] (7 * 1)).toList = _
    rw [toList_madeCells_one]
  rw [e]
  rfl
theorem rws_new (w : World) (k : Nat) : Rws (w.alloc (.cells (List.replicate k (.slice none 0 0)).toArray 25)) (fun b => b = w.heap.size) w.heap.size k (fun _ => []) (fun _ => .slice none 0 0) := by
  have hb := blk_new w (List.replicate k (.slice none 0 0)) 25
  exact ⟨fun b e => by subst e; exact hb.lt, rfl, fun i b _ h => (by cases h), fun i hi => rep_cell hb hi, fun i _ => hb.frozen i, fun i _ => Own.nil _, fun i _ h => (by cases h), fun i j b _ _ _ h => (by cases h)⟩
theorem tmod_nat (a b : Nat) : ((a : Int).tmod (b : Int)) = ((a % b : Nat) : Int) := by
  rw [Int.tmod_eq_emod_of_nonneg (by omega)]
  rfl
theorem shl_two (k : Nat) (hk : k ≤ 6) : IntKind.i64.wrap ((2 : Int) * 2 ^ k) = ((2 ^ (k + 1) : Nat) : Int) := by
  rcases six hk with rfl | rfl | rfl | rfl | rfl | rfl | rfl <;> rfl
set_option maxHeartbeats 2000000 in
theorem rLists_ok {w : World} {q go gt n : Nat} {op : Nat → Bool} {tk : Nat → Option Nat} (h : Rb w q go gt n op tk) (hl : ∀ i, op i = true → i < n) {L : Nat → List Nat} (hL : ∀ k, k ≤ 6 → Fit op k (L k)) :
    Calls Tryz.prog 68 #[.pointer (some ⟨q, 0, none⟩)] w fun e w' => ∃ v, e = .returned v ∧ Ls w.heap.size w' v (fun i => ints (L i)) ∧ w.grownBy w' none := by
  have HR : Hid (Rb w q go gt n op tk) := h
  have HL : Hid (∀ i, op i = true → i < n) := hl
  have HLF : Hid (∀ k, k ≤ 6 → Fit op k (L k)) := hL
  have hn := h.n4
  have hm7 := make7
  have HRN : Hid (Rws (w.alloc (.cells (List.replicate 7 (.slice none 0 0)).toArray 25)) (fun b => b = w.heap.size) w.heap.size 7 (fun _ => []) (fun _ => .slice none 0 0)) := rws_new w 7
  have HGN : Hid (w.grownBy (w.alloc (.cells (List.replicate 7 (.slice none 0 0)).toArray 25)) none) := World.grownBy_alloc _ _ none
  clear h hl hL
  generalize (List.replicate 7 (Value.slice none 0 0)).toArray = C7 at *
  obtain ⟨g, hg⟩ : ∃ g, g = w.heap.size := ⟨_, rfl⟩
  have HGE : Hid (g = w.heap.size) := hg
  have hgm : (Instr.makeSlice 111 (.int .i64 7) (.int .i64 7)).run Tryz.prog w = .ok (.slice (some ⟨g, 0, none⟩) 7 7) (w.alloc (.cells C7 25)) := by rw [hg]; exact hm7 w
  clear hm7 hg
  obtain ⟨i0, hi0, hz0, hz1, hz2⟩ := info_parts Tryz.infoI
  go_enter Tryz.func68, Tryz.ntmps68
  go_wp2
  go_loopw [4] (fun z wr => ∃ a : Nat, z = .int .i64 a ∧ Sst w wr g op n a) (fun z _ => n - (iv z).toNat)
  case atStart =>
    refine ⟨0, rfl, Nat.zero_le _, fun _ => [], Sc.zero op, fun b => b = w.heap.size, fun _ => .slice none 0 0, ?_, fun b e => by omega, HGN.out⟩
    rw [HGE.out]
    exact HRN.out
  case round =>
    obtain ⟨a, rfl, hS⟩ := hrel
    have han := hS.1
    have HST : Hid (Sst w wr g op n a) := hS
    obtain ⟨_, M, hsc, F, V, hrw, hfb, hgr⟩ := hS
    have HSC : Hid (Sc op a M) := hsc
    have HRW : Hid (Rws wr F g 7 (fun i => ints (M i)) V) := hrw
    have HFB : Hid (∀ b, F b → w.heap.size ≤ b) := hfb
    have HG : Hid (w.grownBy wr none) := hgr
    have HRB : Hid (Rb wr q go gt n op tk) := HR.out.of_eq hgr.size (hgr.block q HR.out.ql (by simp)) (hgr.block go HR.out.ol (by simp)) (hgr.block gt HR.out.tl (by simp))
    have d0 := HRB.out.c0
    clear hsc hrw hfb hgr HRN HGN hgm
    by_cases hlt : a < n
    · have hltI : (a : Int) < (n : Int) := by omega
      have d1 := HRB.out.oc a hlt
      cases hop : op a with
      | false =>
        have HSK : Hid (Sst w wr g op n (a + 1)) := ⟨by omega, M, HSC.out.skip hop, F, V, HRW.out, HFB.out, HG.out⟩
        rw [hop] at d1
        clear hop
        go_wp2
        exact ⟨⟨a + 1, by go_num, HSK.out⟩, by simp [iv]; omega⟩
      | true =>
        have HOP : Hid (op a = true) := hop
        rw [hop] at d1
        clear hop
        go_wp2
        go_loopw [5] (fun z wq => ∃ k : Nat, k ≤ 6 ∧ z = .int .i64 k ∧ wq = wr ∧ a % 2 ^ k = 0 ∧ wh op k (a / 2 ^ k)) (fun z _ => 6 - (iv z).toNat)
        case atStart =>
          refine ⟨0, by omega, rfl, rfl, by omega, fun i hi => ?_⟩
          have e : i = a := by simpa using hi
          rw [e]
          exact HOP.out
        case round =>
          obtain ⟨k, hk, rfl, hw, hmo, hwo⟩ := hrel
          obtain rfl := hw
          have HMO : Hid (a % 2 ^ k = 0) := hmo
          have HWO : Hid (wh op k (a / 2 ^ k)) := hwo
          have hbd := wh_le HL.out hmo hwo
          clear hmo hwo
          have hsh := shl_wrap k hk
          have hpl := pow_le k hk
          obtain ⟨S, hS⟩ : ∃ S, 2 ^ k = S := ⟨_, rfl⟩
          have HS : Hid (2 ^ k = S) := hS
          rw [hS] at hsh hpl hbd
          clear hS
          by_cases hk6 : k < 6
          · have hsh2 := shl_two k hk
            have hpl2 := pow_le (k + 1) (by omega)
            have htm := tmod_nat a (2 ^ (k + 1))
            have CO : Hid (Calls _ _ _ _ _) := open_any HRB.out HL.out a (k + 1) (by omega) (by omega)
            obtain ⟨S2, hS2⟩ : ∃ S, 2 ^ (k + 1) = S := ⟨_, rfl⟩
            have HS2 : Hid (2 ^ (k + 1) = S2) := hS2
            rw [hS2] at hsh2 hpl2 htm CO
            rw [show ((k + 1 : Nat) : Int) = (k : Int) + 1 by omega] at CO
            clear hS2
            have hk6I : (k : Int) < 6 := by omega
            have hk1 : IntKind.i64.wrap ((k : Int) + 1) = (k : Int) + 1 := IntWalk.i64_in _ (by omega)
            by_cases hmod : a % S2 = 0
            · rw [hmod] at htm
              have HMOD : Hid (a % S2 = 0) := hmod
              clear hmod
              go_wp2_with fail
              refine CO.out.mono ?_
              rintro e w' ⟨r, rfl, hr, h⟩
              obtain rfl := h.symm
              cases r with
              | true =>
                have HRT : Hid (wh op (k + 1) (a / 2 ^ (k + 1))) := by
                  have hm1 : a % 2 ^ (k + 1) = 0 := by rw [HS2.out]; exact HMOD.out
                  rw [wh_of hm1, HS2.out]
                  exact hr.1 rfl
                clear hr CO
                go_wp2
                go_roundw
                case rel => exact ⟨k + 1, by omega, by go_num, by simp, by rw [HS2.out]; exact HMOD.out, HRT.out⟩
                case measure => simp [iv]; omega
              | false =>
                have HSTOP : Hid (k < 6 → ¬ (a % 2 ^ (k + 1) = 0 ∧ wh op (k + 1) (a / 2 ^ (k + 1)))) := fun _ z => by
                  rw [wh_of z.1, HS2.out] at z
                  have := hr.2 z.2
                  cases this
                clear hr CO
                have HP : Hid (Rws wr F g 7 (fun i => ints (M i)) V) := HRW.out
                have hr := HP.out.row k (by omega)
                have hw1 := HP.out.own k (by omega)
                obtain ⟨g0, c0, hv⟩ := hw1.len
                rw [hv] at hr hw1
                have HV : Hid (V k = _) := hv
                have HO : Hid (Own wr _ _) := hw1
                clear hv hw1
                rw [ints_len] at hr HV HO
                have hf := HP.out.fz k (by omega)
                have hm : (M k).length ≤ 4096 := Nat.le_trans (HSC.out.len k (by omega)) (by omega)
                obtain ⟨m, hme⟩ : ∃ m, (M k).length = m := ⟨_, rfl⟩
                have HME : Hid ((M k).length = m) := hme
                rw [hme] at hr HV HO hm
                clear hme
                have hpw : g < wr.heap.size := HP.out.lt _ HP.out.fg
                have HOW : Hid (∀ W, Below wr.heap.size wr W → W.ownsRow 0 3 1 (.slice g0 m c0) m (tv (ints (M k)))) := fun W hW => by
                  have := HO.out.of_eq (w' := W) (fun c hc => hW.block c (HO.out.lt c hc))
                  unfold Own at this
                  rwa [ints_len, HME.out] at this
                have HB1 : Hid (Below wr.heap.size wr (wr.alloc (.cells #[.int .i64 a] 3))) := (Below.refl _ wr).alloc (Nat.le_refl _) _
                have HN1 : Hid (∀ c u, [Value.int .i64 (a : Int)][c]? = some u → (wr.alloc (.cells #[.int .i64 a] 3)).cell? ((⟨wr.heap.size, 0, none⟩ : Addr).add c) = some u) := news_one wr _ 3
                have HT : Hid (∀ v ∈ [Value.int .i64 (a : Int)], v.oneCell' = true) := by
                  intro v hv
                  simp at hv
                  subst hv
                  rfl
                have HC : Hid (∀ w1, wr.grownBy w1 (Value.slice g0 m c0).ownBlock → w1.cell? ⟨g, k, none⟩ = some (.slice g0 m c0) ∧ w1.frozen? ⟨g, k, none⟩ = false) := fun w1 G => by
                  have := HP.out.vg k (by omega)
                  rw [HV.out] at this
                  exact ⟨(G.cell_far ⟨g, k, none⟩ hpw (fun e => this e.symm)).trans hr, (G.frozen_far ⟨g, k, none⟩ hpw (fun e => this e.symm)).trans hf⟩
                have hk0 : (0 : Int) ≤ (k : Int) := by omega
                have hk7 : (k : Int) < 7 := by omega
                have hwr : IntKind.i64.wrap ((a : Int) + (S : Int)) = (a : Int) + (S : Int) := IntWalk.i64_in _ (by omega)
                go_wp2_with (first | (at_builtin; refine wpList_append_lies _ rfl (.tmp 47) (.tmp 49) 25 rfl 0 3 i0 _ 1 8 Tryz.underlying25 hi0 hz0 hz1 hz2 rfl (by decide) (.slice g0 m c0) m (tv (ints (M k))) rfl (HOW.out _ HB1.out) ⟨wr.heap.size, 0, none⟩ 1 1 [.int .i64 a] rfl rfl HN1.out HT.out (by omega) (by unfold maxLen; omega) (by omega) (Nat.zero_le _) (wr.heap.size + 1) (by simp) ?_; intro g1 k1 w1 o1 gr1 at1 lt1; have G1 : Hid (wr.grownBy w1 (Value.slice g0 m c0).ownBlock) := (World.grownBy_alloc wr _ _).trans gr1; obtain ⟨r1, r2⟩ := HC.out w1 G1.out))
                have HX : Hid (Sst w (w1.setCell ⟨g, k, none⟩ (.slice (some ⟨g1, 0, none⟩) (m + 1) k1)) g op n (a + S)) := by
                  have hz := HP.out.turn k (by omega) (.slice (some ⟨g1, 0, none⟩) (m + 1) k1) (ints (M k ++ [a])) (w1 := w1) (by rw [HV.out]; exact G1.out) (by
                    unfold Own
                    have e1 : (ints (M k ++ [a])).length = m + 1 := by rw [ints_len, List.length_append, HME.out]; rfl
                    have e2 : tv (ints (M k ++ [a])) = tv (ints (M k)) ++ [.int .i64 a] := by simp [ints, tv]
                    rw [e1, e2]
                    exact o1) (fun c hc => by
                    rw [HV.out]
                    obtain rfl : g1 = c := by simpa [Value.ownBlock] using hc
                    rcases at1 with z | z
                    · exact Or.inl z
                    · exact Or.inr (by omega))
                  obtain ⟨R1, K1⟩ := hz
                  have hsc := HSC.out.add (k := k) (by omega) HMO.out HWO.out HSTOP.out
                  rw [HS.out] at hsc
                  refine ⟨by omega, _, hsc, _, _, R1.congr (fun i hi => ?_), ?_, ?_⟩
                  · unfold put
                    by_cases e : i = k
                    · subst e
                      rw [if_pos rfl, if_pos rfl]
                    · rw [if_neg e, if_neg e]
                  · intro b hb
                    rcases hb with z | z
                    · exact HFB.out b z
                    · exact Nat.le_trans HG.out.size z.1
                  · refine ⟨K1.os.trans HG.out.os, K1.tape.trans HG.out.tape, K1.output.trans HG.out.output, Nat.le_trans HG.out.size K1.size, fun c hc hn => (K1.block c (Nat.lt_of_lt_of_le hc HG.out.size) (fun z => by have := HFB.out c z; omega)).trans (HG.out.block c hc hn)⟩
                clear r1 r2 G1 gr1 o1 at1 lt1 HC HT HN1 HB1 HOW hr hf HV HO HP HRW
                generalize w1.setCell ⟨g, k, none⟩ (.slice (some ⟨g1, 0, none⟩) (m + 1) k1) = w5 at *
                go_wp2
                exact ⟨⟨a + S, by go_num, HX.out⟩, by simp [iv]; omega⟩
            · have hmodI : ¬ (((a % S2 : Nat) : Int) = 0) := by omega
              have HSTOP : Hid (k < 6 → ¬ (a % 2 ^ (k + 1) = 0 ∧ wh op (k + 1) (a / 2 ^ (k + 1)))) := fun _ z => by
                have := z.1
                rw [HS2.out] at this
                exact hmod this
              obtain ⟨R, hR⟩ : ∃ R, a % S2 = R := ⟨_, rfl⟩
              rw [hR] at htm hmodI
              clear hmod hR CO
              have HP : Hid (Rws wr F g 7 (fun i => ints (M i)) V) := HRW.out
              have hr := HP.out.row k (by omega)
              have hw1 := HP.out.own k (by omega)
              obtain ⟨g0, c0, hv⟩ := hw1.len
              rw [hv] at hr hw1
              have HV : Hid (V k = _) := hv
              have HO : Hid (Own wr _ _) := hw1
              clear hv hw1
              rw [ints_len] at hr HV HO
              have hf := HP.out.fz k (by omega)
              have hm : (M k).length ≤ 4096 := Nat.le_trans (HSC.out.len k (by omega)) (by omega)
              obtain ⟨m, hme⟩ : ∃ m, (M k).length = m := ⟨_, rfl⟩
              have HME : Hid ((M k).length = m) := hme
              rw [hme] at hr HV HO hm
              clear hme
              have hpw : g < wr.heap.size := HP.out.lt _ HP.out.fg
              have HOW : Hid (∀ W, Below wr.heap.size wr W → W.ownsRow 0 3 1 (.slice g0 m c0) m (tv (ints (M k)))) := fun W hW => by
                have := HO.out.of_eq (w' := W) (fun c hc => hW.block c (HO.out.lt c hc))
                unfold Own at this
                rwa [ints_len, HME.out] at this
              have HB1 : Hid (Below wr.heap.size wr (wr.alloc (.cells #[.int .i64 a] 3))) := (Below.refl _ wr).alloc (Nat.le_refl _) _
              have HN1 : Hid (∀ c u, [Value.int .i64 (a : Int)][c]? = some u → (wr.alloc (.cells #[.int .i64 a] 3)).cell? ((⟨wr.heap.size, 0, none⟩ : Addr).add c) = some u) := news_one wr _ 3
              have HT : Hid (∀ v ∈ [Value.int .i64 (a : Int)], v.oneCell' = true) := by
                intro v hv
                simp at hv
                subst hv
                rfl
              have HC : Hid (∀ w1, wr.grownBy w1 (Value.slice g0 m c0).ownBlock → w1.cell? ⟨g, k, none⟩ = some (.slice g0 m c0) ∧ w1.frozen? ⟨g, k, none⟩ = false) := fun w1 G => by
                have := HP.out.vg k (by omega)
                rw [HV.out] at this
                exact ⟨(G.cell_far ⟨g, k, none⟩ hpw (fun e => this e.symm)).trans hr, (G.frozen_far ⟨g, k, none⟩ hpw (fun e => this e.symm)).trans hf⟩
              have hk0 : (0 : Int) ≤ (k : Int) := by omega
              have hk7 : (k : Int) < 7 := by omega
              have hwr : IntKind.i64.wrap ((a : Int) + (S : Int)) = (a : Int) + (S : Int) := IntWalk.i64_in _ (by omega)
              go_wp2_with (first | (at_builtin; refine wpList_append_lies _ rfl (.tmp 47) (.tmp 49) 25 rfl 0 3 i0 _ 1 8 Tryz.underlying25 hi0 hz0 hz1 hz2 rfl (by decide) (.slice g0 m c0) m (tv (ints (M k))) rfl (HOW.out _ HB1.out) ⟨wr.heap.size, 0, none⟩ 1 1 [.int .i64 a] rfl rfl HN1.out HT.out (by omega) (by unfold maxLen; omega) (by omega) (Nat.zero_le _) (wr.heap.size + 1) (by simp) ?_; intro g1 k1 w1 o1 gr1 at1 lt1; have G1 : Hid (wr.grownBy w1 (Value.slice g0 m c0).ownBlock) := (World.grownBy_alloc wr _ _).trans gr1; obtain ⟨r1, r2⟩ := HC.out w1 G1.out))
              have HX : Hid (Sst w (w1.setCell ⟨g, k, none⟩ (.slice (some ⟨g1, 0, none⟩) (m + 1) k1)) g op n (a + S)) := by
                have hz := HP.out.turn k (by omega) (.slice (some ⟨g1, 0, none⟩) (m + 1) k1) (ints (M k ++ [a])) (w1 := w1) (by rw [HV.out]; exact G1.out) (by
                  unfold Own
                  have e1 : (ints (M k ++ [a])).length = m + 1 := by rw [ints_len, List.length_append, HME.out]; rfl
                  have e2 : tv (ints (M k ++ [a])) = tv (ints (M k)) ++ [.int .i64 a] := by simp [ints, tv]
                  rw [e1, e2]
                  exact o1) (fun c hc => by
                  rw [HV.out]
                  obtain rfl : g1 = c := by simpa [Value.ownBlock] using hc
                  rcases at1 with z | z
                  · exact Or.inl z
                  · exact Or.inr (by omega))
                obtain ⟨R1, K1⟩ := hz
                have hsc := HSC.out.add (k := k) (by omega) HMO.out HWO.out HSTOP.out
                rw [HS.out] at hsc
                refine ⟨by omega, _, hsc, _, _, R1.congr (fun i hi => ?_), ?_, ?_⟩
                · unfold put
                  by_cases e : i = k
                  · subst e
                    rw [if_pos rfl, if_pos rfl]
                  · rw [if_neg e, if_neg e]
                · intro b hb
                  rcases hb with z | z
                  · exact HFB.out b z
                  · exact Nat.le_trans HG.out.size z.1
                · refine ⟨K1.os.trans HG.out.os, K1.tape.trans HG.out.tape, K1.output.trans HG.out.output, Nat.le_trans HG.out.size K1.size, fun c hc hn => (K1.block c (Nat.lt_of_lt_of_le hc HG.out.size) (fun z => by have := HFB.out c z; omega)).trans (HG.out.block c hc hn)⟩
              clear r1 r2 G1 gr1 o1 at1 lt1 HC HT HN1 HB1 HOW hr hf HV HO HP HRW
              generalize w1.setCell ⟨g, k, none⟩ (.slice (some ⟨g1, 0, none⟩) (m + 1) k1) = w5 at *
              go_wp2
              exact ⟨⟨a + S, by go_num, HX.out⟩, by simp [iv]; omega⟩
          · have HSTOP : Hid (k < 6 → ¬ (a % 2 ^ (k + 1) = 0 ∧ wh op (k + 1) (a / 2 ^ (k + 1)))) := fun z => absurd z hk6
            have hk6I : ¬ ((k : Int) < 6) := by omega
            have HP : Hid (Rws wr F g 7 (fun i => ints (M i)) V) := HRW.out
            have hr := HP.out.row k (by omega)
            have hw1 := HP.out.own k (by omega)
            obtain ⟨g0, c0, hv⟩ := hw1.len
            rw [hv] at hr hw1
            have HV : Hid (V k = _) := hv
            have HO : Hid (Own wr _ _) := hw1
            clear hv hw1
            rw [ints_len] at hr HV HO
            have hf := HP.out.fz k (by omega)
            have hm : (M k).length ≤ 4096 := Nat.le_trans (HSC.out.len k (by omega)) (by omega)
            obtain ⟨m, hme⟩ : ∃ m, (M k).length = m := ⟨_, rfl⟩
            have HME : Hid ((M k).length = m) := hme
            rw [hme] at hr HV HO hm
            clear hme
            have hpw : g < wr.heap.size := HP.out.lt _ HP.out.fg
            have HOW : Hid (∀ W, Below wr.heap.size wr W → W.ownsRow 0 3 1 (.slice g0 m c0) m (tv (ints (M k)))) := fun W hW => by
              have := HO.out.of_eq (w' := W) (fun c hc => hW.block c (HO.out.lt c hc))
              unfold Own at this
              rwa [ints_len, HME.out] at this
            have HB1 : Hid (Below wr.heap.size wr (wr.alloc (.cells #[.int .i64 a] 3))) := (Below.refl _ wr).alloc (Nat.le_refl _) _
            have HN1 : Hid (∀ c u, [Value.int .i64 (a : Int)][c]? = some u → (wr.alloc (.cells #[.int .i64 a] 3)).cell? ((⟨wr.heap.size, 0, none⟩ : Addr).add c) = some u) := news_one wr _ 3
            have HT : Hid (∀ v ∈ [Value.int .i64 (a : Int)], v.oneCell' = true) := by
              intro v hv
              simp at hv
              subst hv
              rfl
            have HC : Hid (∀ w1, wr.grownBy w1 (Value.slice g0 m c0).ownBlock → w1.cell? ⟨g, k, none⟩ = some (.slice g0 m c0) ∧ w1.frozen? ⟨g, k, none⟩ = false) := fun w1 G => by
              have := HP.out.vg k (by omega)
              rw [HV.out] at this
              exact ⟨(G.cell_far ⟨g, k, none⟩ hpw (fun e => this e.symm)).trans hr, (G.frozen_far ⟨g, k, none⟩ hpw (fun e => this e.symm)).trans hf⟩
            have hk0 : (0 : Int) ≤ (k : Int) := by omega
            have hk7 : (k : Int) < 7 := by omega
            have hwr : IntKind.i64.wrap ((a : Int) + (S : Int)) = (a : Int) + (S : Int) := IntWalk.i64_in _ (by omega)
            go_wp2_with (first | (at_builtin; refine wpList_append_lies _ rfl (.tmp 47) (.tmp 49) 25 rfl 0 3 i0 _ 1 8 Tryz.underlying25 hi0 hz0 hz1 hz2 rfl (by decide) (.slice g0 m c0) m (tv (ints (M k))) rfl (HOW.out _ HB1.out) ⟨wr.heap.size, 0, none⟩ 1 1 [.int .i64 a] rfl rfl HN1.out HT.out (by omega) (by unfold maxLen; omega) (by omega) (Nat.zero_le _) (wr.heap.size + 1) (by simp) ?_; intro g1 k1 w1 o1 gr1 at1 lt1; have G1 : Hid (wr.grownBy w1 (Value.slice g0 m c0).ownBlock) := (World.grownBy_alloc wr _ _).trans gr1; obtain ⟨r1, r2⟩ := HC.out w1 G1.out))
            have HX : Hid (Sst w (w1.setCell ⟨g, k, none⟩ (.slice (some ⟨g1, 0, none⟩) (m + 1) k1)) g op n (a + S)) := by
              have hz := HP.out.turn k (by omega) (.slice (some ⟨g1, 0, none⟩) (m + 1) k1) (ints (M k ++ [a])) (w1 := w1) (by rw [HV.out]; exact G1.out) (by
                unfold Own
                have e1 : (ints (M k ++ [a])).length = m + 1 := by rw [ints_len, List.length_append, HME.out]; rfl
                have e2 : tv (ints (M k ++ [a])) = tv (ints (M k)) ++ [.int .i64 a] := by simp [ints, tv]
                rw [e1, e2]
                exact o1) (fun c hc => by
                rw [HV.out]
                obtain rfl : g1 = c := by simpa [Value.ownBlock] using hc
                rcases at1 with z | z
                · exact Or.inl z
                · exact Or.inr (by omega))
              obtain ⟨R1, K1⟩ := hz
              have hsc := HSC.out.add (k := k) (by omega) HMO.out HWO.out HSTOP.out
              rw [HS.out] at hsc
              refine ⟨by omega, _, hsc, _, _, R1.congr (fun i hi => ?_), ?_, ?_⟩
              · unfold put
                by_cases e : i = k
                · subst e
                  rw [if_pos rfl, if_pos rfl]
                · rw [if_neg e, if_neg e]
              · intro b hb
                rcases hb with z | z
                · exact HFB.out b z
                · exact Nat.le_trans HG.out.size z.1
              · refine ⟨K1.os.trans HG.out.os, K1.tape.trans HG.out.tape, K1.output.trans HG.out.output, Nat.le_trans HG.out.size K1.size, fun c hc hn => (K1.block c (Nat.lt_of_lt_of_le hc HG.out.size) (fun z => by have := HFB.out c z; omega)).trans (HG.out.block c hc hn)⟩
            clear r1 r2 G1 gr1 o1 at1 lt1 HC HT HN1 HB1 HOW hr hf HV HO HP HRW
            generalize w1.setCell ⟨g, k, none⟩ (.slice (some ⟨g1, 0, none⟩) (m + 1) k1) = w5 at *
            go_wp2
            exact ⟨⟨a + S, by go_num, HX.out⟩, by simp [iv]; omega⟩
    · have HFIN : Hid (Ls w.heap.size wr (.slice (some ⟨g, 0, none⟩) 7 7) (fun i => ints (L i))) := by
        obtain rfl : a = n := by omega
        refine ⟨g, 7, F, V, rfl, HRW.out.congr (fun i hi => ?_), HFB.out⟩
        rw [((HSC.out.fit HL.out i (by omega)).uniq (HLF.out i (by omega)))]
      have hltI : (n : Int) ≤ (a : Int) := by omega
      go_wp2
      go_ret
      exact ⟨_, rfl, HFIN.out, HG.out⟩
end Go.Proofs.YtifchflbhdnfaaaGreat.B
