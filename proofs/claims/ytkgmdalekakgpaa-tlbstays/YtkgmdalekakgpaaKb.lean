/- The statement TlbStays's own functions: turned, dropped. -/
import Derived.Test.YtkgmdalekakgpaaKa
import Derived.Test.YtkgmdalekakgpaaSt
import Derived.Laws.AppendOwnNone
namespace Go.Proofs.Ytkgmdalekakgpaa
open Go.ChangeShapes Go.WideShapes Go.ChangeAt Go.RowKit
set_option linter.unusedVariables false

theorem Try.infoK : (Try.prog.info? 46).map (fun i => (i.zero, i.size, i.bytes)) = some (some (.agg #[.int .i64 0, .int .i64 0, .int .i64 0, .bool false, .bool false, .bool false, .bool false]), 7, 40) := by kernel_rfl
/-- A row of such, as a slice of its own, in a block from B on. -/
def KOwn (B : Nat) (w : World) (v : Value) (l : List Kx) : Prop := w.ownsRow B 46 7 v l.length (kv l)
theorem KOwn.nil (B : Nat) (w : World) : KOwn B w (.slice none 0 0) [] := World.ownsRow_nil w B 46 7
theorem KOwn.of_eq {B : Nat} {w w' : World} {v : Value} {l : List Kx} (h : KOwn B w v l) (e : ∀ g, v.ownBlock = some g → w'.heap[g]? = w.heap[g]?) : KOwn B w' v l := by
  refine ⟨h.1, ?_⟩
  rcases h.2 with h1 | ⟨g, cap, cur, h1, h2, h3, h4⟩
  · exact Or.inl h1
  · subst h1
    exact Or.inr ⟨g, cap, cur, rfl, h2, (e g rfl).trans h3, h4⟩
theorem KOwn.lt {B : Nat} {w : World} {v : Value} {l : List Kx} (h : KOwn B w v l) : ∀ g, v.ownBlock = some g → B ≤ g ∧ g < w.heap.size := by
  intro g hg
  rcases h.2 with ⟨rfl, _⟩ | ⟨g', cap, cur, rfl, h2, h3, _⟩
  · cases hg
  · cases hg
    exact ⟨h2, (Array.getElem?_eq_some_iff.1 h3).1⟩
theorem KOwn.below {B : Nat} {w w' : World} {v : Value} {l : List Kx} (h : KOwn B w v l) (k : Below w.heap.size w w') : KOwn B w' v l := h.of_eq (fun g hg => k.block g (h.lt g hg).2)
theorem KOwn.len {B : Nat} {w : World} {v : Value} {l : List Kx} (h : KOwn B w v l) : ∃ a cap, v = .slice a l.length cap := by
  rcases h.2 with ⟨h1, h2⟩ | ⟨g, cap, cur, h1, _⟩
  · exact ⟨none, 0, by rw [h1, h2]⟩
  · exact ⟨_, _, h1⟩
structure Sev (w : World) (g o : Nat) (y : Kx) : Prop where
  six : Six w g o y.x
  c6 : w.cell? ⟨g, o + 6, none⟩ = some (.bool y.gone)
theorem KOwn.cell {B : Nat} {w : World} {v : Value} {l : List Kx} (h : KOwn B w v l) {k : Nat} {y : Kx} (hk : l[k]? = some y) : ∃ g cap, v = .slice (some ⟨g, 0, none⟩) l.length cap ∧ Sev w g (k * 7) y ∧ g < w.heap.size ∧ l.length ≤ cap ∧ cap ≤ maxLen := by
  obtain ⟨hlt, _⟩ := List.getElem?_eq_some_iff.1 hk
  rcases h.2 with ⟨_, h0⟩ | ⟨g, cap, cur, h1, h2, h3, h4, h5, h6, h7⟩
  · omega
  · have hcell : ∀ j v, (kc y)[j]? = some v → w.cell? ⟨g, k * 7 + j, none⟩ = some v := by
      intro j v hv
      have hj : j < 7 := by have := (List.getElem?_eq_some_iff.1 hv).1; simpa [kc, tc] using this
      rw [cell_of_row w g (k * 7 + j) cur 46 (0, 0) h3]
      have h7' : cur.toList.take (l.length * 7) = kv l := by simpa using h7
      have : cur.toList[k * 7 + j]? = some v := by
        rw [← List.getElem?_take_of_lt (j := l.length * 7) (by omega), h7']
        exact kv_at hk j v hv
      simpa using this
    refine ⟨g, cap, h1, ⟨Six.of (fun j v hv => hcell j v ?_), hcell 6 _ rfl⟩, (Array.getElem?_eq_some_iff.1 h3).1, h4, h5⟩
    have hj := (List.getElem?_eq_some_iff.1 hv).1
    unfold kc
    rw [List.getElem?_append_left hj]
    exact hv
theorem Sev.of_eq {w w' : World} {g o : Nat} {y : Kx} (h : Sev w g o y) (e : w'.heap[g]? = w.heap[g]?) : Sev w' g o y := ⟨h.six.of_eq e, (World.cell?_of_block (w := w) (a := ⟨g, o + 6, none⟩) e).trans h.c6⟩
theorem Sev.below {w w' : World} {g o : Nat} {y : Kx} (h : Sev w g o y) (hg : g < w.heap.size) (k : Below w.heap.size w w') : Sev w' g o y := h.of_eq (k.block g hg)
theorem sev_new (w : World) (y : Kx) (ty : TypeId) : Sev (w.alloc (.cells (kc y).toArray ty)) w.heap.size 0 y :=
  ⟨Six.of (fun j v hv => by
    rw [Nat.zero_add, (blk_new w (kc y) ty).cell j]
    have hj := (List.getElem?_eq_some_iff.1 hv).1
    unfold kc
    rw [List.getElem?_append_left hj]
    exact hv), by rw [(blk_new w (kc y) ty).cell]; rfl⟩
theorem KOwn.weak {B B' : Nat} {w : World} {v : Value} {l : List Kx} (h : KOwn B w v l) (hB : B' ≤ B) : KOwn B' w v l := by
  refine ⟨h.1, ?_⟩
  rcases h.2 with h1 | ⟨g, cap, cur, h1, h2, h3⟩
  · exact Or.inl h1
  · exact Or.inr ⟨g, cap, cur, h1, Nat.le_trans hB h2, h3⟩
theorem kbox_cells (w : World) (y : Kx) (ty : TypeId) : ∀ j u, (kc y)[j]? = some u → (w.alloc (.cells (kc y).toArray ty)).cell? ((⟨w.heap.size, 0, none⟩ : Addr).add j) = some u := by
  intro j u hj
  rw [Go.WideShapes.add_plain, Nat.zero_add, (blk_new w (kc y) ty).cell j]
  exact hj
theorem kt_snoc_no {a p : Int} {l : List Kx} {j : Nat} {y : Kx} (h : l[j]? = some y) (hy : hk a p y.x = false) : (l.take (j + 1)).filter (fun z => !hk a p z.x) = (l.take j).filter (fun z => !hk a p z.x) ++ [y] := by
  rw [List.take_add_one, h]
  simp [List.filter_append, hy]
theorem kt_snoc_is {a p : Int} {l : List Kx} {j : Nat} {y : Kx} (h : l[j]? = some y) (hy : hk a p y.x = true) : (l.take (j + 1)).filter (fun z => !hk a p z.x) = (l.take j).filter (fun z => !hk a p z.x) := by
  rw [List.take_add_one, h]
  simp [List.filter_append, hy]
set_option maxHeartbeats 2000000 in
theorem turned_any {B : Nat} {w : World} {v : Value} {l : List Kx} (ho : KOwn B w v l) (hl : l.length ≤ 1000) (y : Kx) :
    Calls Try.prog 17 #[v, .agg #[.int .i64 y.x.a, .int .i64 y.x.p, .int .i64 y.x.f, .bool y.x.r, .bool y.x.w, .bool y.x.d, .bool y.gone]] w fun e w' => ∃ v', e = .returned v' ∧ KOwn w.heap.size w' v' (kt y.x.a y.x.p l y) ∧ Below w.heap.size w w' := by
  obtain ⟨i0, hi0, hz0, hz1, hz2⟩ := info_parts Try.infoK
  obtain ⟨ao, cap, hv⟩ := ho.len
  subst hv
  have HO : Hid (KOwn B w (.slice ao l.length cap) l) := ho
  clear ho
  go_enter Try.func17, Try.ntmps17
  go_wp2_with fail
  have X0 : Hid (Sev (w.alloc (.cells #[.int .i64 y.x.a, .int .i64 y.x.p, .int .i64 y.x.f, .bool y.x.r, .bool y.x.w, .bool y.x.d, .bool y.gone] 46)) w.heap.size 0 y) := sev_new w y 46
  have B0 : Hid (Below w.heap.size w (w.alloc (.cells #[.int .i64 y.x.a, .int .i64 y.x.p, .int .i64 y.x.f, .bool y.x.r, .bool y.x.w, .bool y.x.d, .bool y.gone] 46))) := below_new _ _
  have hb0 : w.heap.size < (w.alloc (.cells #[.int .i64 y.x.a, .int .i64 y.x.p, .int .i64 y.x.f, .bool y.x.r, .bool y.x.w, .bool y.x.d, .bool y.gone] 46)).heap.size := by simp
  have HO0 : Hid (KOwn B (w.alloc (.cells #[.int .i64 y.x.a, .int .i64 y.x.p, .int .i64 y.x.f, .bool y.x.r, .bool y.x.w, .bool y.x.d, .bool y.gone] 46)) (.slice ao l.length cap) l) := HO.out.below (below_new _ _)
  generalize w.alloc (.cells #[.int .i64 y.x.a, .int .i64 y.x.p, .int .i64 y.x.f, .bool y.x.r, .bool y.x.w, .bool y.x.d, .bool y.gone] 46) = W0 at *
  generalize hbz : w.heap.size = b0 at *
  clear HO
  go_loopw [5, 6] (fun v i wr => ∃ j : Nat, j ≤ l.length ∧ i = .int .i64 j ∧ KOwn W0.heap.size wr v ((l.take j).filter (fun z => !hk y.x.a y.x.p z.x)) ∧ Below W0.heap.size W0 wr) (fun _ i _ => l.length - (intOf i).toNat)
  case atStart => exact ⟨0, by omega, rfl, KOwn.nil _ _, Below.refl _ _⟩
  case round =>
    obtain ⟨j, hj, rfl, o, hb⟩ := hrel
    have HB : Hid (Below W0.heap.size W0 wr) := hb
    have hsz := hb.size
    have HK : Hid (KOwn W0.heap.size wr u5 ((l.take j).filter (fun z => !hk y.x.a y.x.p z.x))) := o
    have hA : ((l.take j).filter (fun z => !hk y.x.a y.x.p z.x)).length ≤ 1000 := Nat.le_trans (List.length_filter_le _ _) (by simp; omega)
    clear o
    obtain ⟨⟨x0, x1, x2, x3, x4, x5⟩, x6⟩ := X0.out.below hb0 hb
    by_cases hlt : j < l.length
    · have hg : l[j]? = some l[j] := List.getElem?_eq_getElem hlt
      have HG : Hid (l[j]? = some l[j]) := hg
      obtain ⟨gr, cap', e1, ⟨⟨d0, d1, d2, d3, d4, d5⟩, d6⟩, hgl, hc1, hc2⟩ := (HO0.out.below hb).cell hg
      cases e1
      clear hg hb
      generalize l[j] = z at *
      unfold maxLen at hc2
      have i0' : (0 : Int) ≤ (j : Int) := by omega
      have i1' : (j : Int) < (l.length : Int) := by omega
      by_cases ha : z.x.a = y.x.a ∧ z.x.p = y.x.p
      · have hz : hk y.x.a y.x.p z.x = true := by simp [hk, ha.1, ha.2]
        have HZ : Hid (hk y.x.a y.x.p z.x = true) := hz
        have q1 : (z.x.a != y.x.a) = false := by simp [ha.1]
        have q2 : (z.x.p != y.x.p) = false := by simp [ha.2]
        clear hz ha
        go_wp2_with fail
        go_quiet (fail)
        clear d0 d1 d2 d3 d4 d5 d6 x0 x1 x2 x3 x4 x5 x6 q1 q2
        have HB2 : Hid (Below W0.heap.size W0 (wr.drewN nq)) := HB.out.trans (below_drewN _ _ _)
        have HK2 : Hid (KOwn W0.heap.size (wr.drewN nq) u5 ((l.take (j + 1)).filter (fun z => !hk y.x.a y.x.p z.x))) := by
          unfold Hid
          rw [kt_snoc_is HG.out HZ.out]
          exact HK.out.below (below_drewN _ _ _)
        generalize wr.drewN nq = w2 at *
        go_wp2_with fail
        go_roundw
        case rel => exact ⟨j + 1, by omega, by go_num, HK2.out, HB2.out⟩
        case measure => simp [intOf]; omega
      · have HZ : Hid (hk y.x.a y.x.p z.x = false) := by
          unfold Hid
          cases e : hk y.x.a y.x.p z.x with
          | false => rfl
          | true => exact absurd (hk_eq e) ha
        have q : (z.x.a != y.x.a) = true ∨ ((z.x.a != y.x.a) = false ∧ (z.x.p != y.x.p) = true) := by
          by_cases e : z.x.a = y.x.a
          · right
            exact ⟨by simp [e], by simpa using fun e2 => ha ⟨e, e2⟩⟩
          · left
            simpa using e
        clear ha
        rcases q with q1 | ⟨q1, q2⟩
        all_goals (
          go_wp2_with fail
          go_quiet (fail)
          clear x0 x1 x2 x3 x4 x5 x6
          have HB2 : Hid (Below W0.heap.size W0 (wr.drewN nq)) := HB.out.trans (below_drewN _ _ _)
          have hs2 : W0.heap.size ≤ (wr.drewN nq).heap.size := hsz
          have HK2 : Hid ((wr.drewN nq).ownsRow W0.heap.size 46 7 u5 ((l.take j).filter (fun z => !hk y.x.a y.x.p z.x)).length (kv ((l.take j).filter (fun z => !hk y.x.a y.x.p z.x)))) := HK.out.below (below_drewN _ _ _)
          have HS2 : Sev (wr.drewN nq) gr (j * 7) z := Sev.of_eq ⟨⟨d0, d1, d2, d3, d4, d5⟩, d6⟩ rfl
          clear d0 d1 d2 d3 d4 d5 d6
          generalize wr.drewN nq = w2 at *
          obtain ⟨⟨d0, d1, d2, d3, d4, d5⟩, d6⟩ := HS2
          have HN : Hid (∀ j u, (kc z)[j]? = some u → (w2.alloc (.cells #[.int .i64 z.x.a, .int .i64 z.x.p, .int .i64 z.x.f, .bool z.x.r, .bool z.x.w, .bool z.x.d, .bool z.gone] 46)).cell? ((⟨w2.heap.size, 0, none⟩ : Addr).add j) = some u) := kbox_cells w2 z 46
          have HT : Hid (∀ v ∈ kc z, v.oneCell' = true) := kc_one z
          have HF : Hid ((l.take (j + 1)).filter (fun z => !hk y.x.a y.x.p z.x) = (l.take j).filter (fun z => !hk y.x.a y.x.p z.x) ++ [z]) := kt_snoc_no HG.out HZ.out
          obtain ⟨A, hAA⟩ : ∃ A, (l.take j).filter (fun z => !hk y.x.a y.x.p z.x) = A := ⟨_, rfl⟩
          have HAA : Hid ((l.take j).filter (fun z => !hk y.x.a y.x.p z.x) = A) := hAA
          rw [hAA] at HK2 hA HF
          clear hAA
          go_wp2_with (at_builtin; refine wpList_append_own _ rfl (.tmp 35) (.tmp 40) 41 rfl W0.heap.size 46 i0 _ 7 40 Try.underlying41 hi0 hz0 hz1 hz2 rfl (by decide) _ A.length _ rfl (World.ownsRow.alloc HK2.out _) ⟨w2.heap.size, 0, none⟩ 1 1 (kc z) rfl rfl HN.out HT.out (by unfold maxLen; omega) (by omega) (by simp; omega) ?_; intro v3 w3 o3 gr3 nil3)
          go_roundw
          case rel =>
            refine ⟨j + 1, by omega, by go_num, ?_, (HB2.out.alloc hs2 _).grown gr3 (by simp; omega) (fun k hk => (HK2.out.lt k hk).1)⟩
            rw [HF.out]
            unfold KOwn
            rw [kv_app, List.length_append, show kv [z] = kc z by simp [kv]]
            exact o3
          case measure => simp [intOf]; omega)
    · obtain rfl : j = l.length := by omega
      clear hb
      have HK2 : Hid (wr.ownsRow W0.heap.size 46 7 u5 (l.filter (fun z => !hk y.x.a y.x.p z.x)).length (kv (l.filter (fun z => !hk y.x.a y.x.p z.x)))) := by
        have := HK.out
        rw [List.take_of_length_le (Nat.le_refl _)] at this
        exact this
      rw [List.take_of_length_le (Nat.le_refl _)] at hA
      have HN : Hid (∀ j u, (kc y)[j]? = some u → (wr.alloc (.cells #[.int .i64 y.x.a, .int .i64 y.x.p, .int .i64 y.x.f, .bool y.x.r, .bool y.x.w, .bool y.x.d, .bool y.gone] 46)).cell? ((⟨wr.heap.size, 0, none⟩ : Addr).add j) = some u) := kbox_cells wr y 46
      have HT : Hid (∀ v ∈ kc y, v.oneCell' = true) := kc_one y
      obtain ⟨A, hAA⟩ : ∃ A, l.filter (fun z => !hk y.x.a y.x.p z.x) = A := ⟨_, rfl⟩
      have HAA : Hid (l.filter (fun z => !hk y.x.a y.x.p z.x) = A) := hAA
      rw [hAA] at HK2 hA
      clear hAA
      go_wp2_with (at_builtin; refine wpList_append_own _ rfl (.tmp 42) (.tmp 44) 41 rfl W0.heap.size 46 i0 _ 7 40 Try.underlying41 hi0 hz0 hz1 hz2 rfl (by decide) _ A.length _ rfl (World.ownsRow.alloc HK2.out _) ⟨wr.heap.size, 0, none⟩ 1 1 (kc y) rfl rfl HN.out HT.out (by unfold maxLen; omega) (by omega) (by simp; omega) ?_; intro v3 w3 o3 gr3 nil3)
      go_ret
      refine ⟨_, rfl, ?_, ?_⟩
      · refine KOwn.weak (B := W0.heap.size) ?_ (by omega)
        unfold kt KOwn
        rw [HAA.out, kv_app, List.length_append, show kv [y] = kc y by simp [kv]]
        exact o3
      · subst hbz
        exact B0.out.trans (((HB.out.alloc hsz _).grown gr3 (by simp; omega) (fun k hk => (HK2.out.lt k hk).1)).mono (by omega))
end Go.Proofs.Ytkgmdalekakgpaa
