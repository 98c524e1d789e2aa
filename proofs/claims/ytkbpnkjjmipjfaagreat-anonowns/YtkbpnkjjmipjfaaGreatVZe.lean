/- What Share of package anon answers and leaves; no condition but those that each theorem names. -/
import Derived.Test.YtkbpnkjjmipjfaaGreatVZc
import Derived.Test.YtkbpnkjjmipjfaaGreatVZd
import Derived.Deep.RegionWith
namespace Go.Proofs.YtkbpnkjjmipjfaaGreat.Az
open B P Go.ChangeShapes Go.WideShapes Go.ChangeAt Go.RowKit
set_option linter.unusedVariables false
set_option maxRecDepth 8192

section
variable {Y : Nat → Prop} {w0 w w' : World} {z : Pz} {X F : Nat → Prop} {L : Nat → Nat} {hw : E.Hw} {sc : E.Sc} {Q : Par} {us : Us} {mk : Ms} {u N : Nat} {f : Rs} {g : Nat → Nat} {V : Nat → Value} {A : Nat → Nat}
theorem An.own_ne {a h s b : Nat} (K : An w L a h s b N f g V A) {i : Nat} {r : Rc} (hr : f i = some r) : (V i).ownBlock ≠ some (g i) := fun e => by
  have h1 := K.lv i r _ hr e
  have h2 := K.lg i r hr
  omega
theorem Tu.joined (K : Tu w0 w z X F L hw sc Q us mk u N f g V A) {i : Nat} {r : Rc} (hr : f i = some r) {pd : Int} {v2 : Value} {w4 : World} (hJ : Jn (w.alloc (.cells #[.int .i64 pd] 3)) (V i) (r.ps ++ [pd]) v2 w4) :
    v2.ownBlock ≠ some (g i) ∧ B.Blk w4 (g i) 160 (ro r (V i) (A i)) ∧ Own (w4.setCell ⟨g i, 1, none⟩ v2) v2 (r.ps ++ [pd]) ∧ B.Blk (w4.setCell ⟨g i, 1, none⟩ v2) (g i) 160 (ro r v2 (A i)) ∧
      Kp (fun x => x = g i ∨ (V i).ownBlock = some x) (fun x => x = g i ∨ (V i).ownBlock = some x ∨ v2.ownBlock = some x) w (w4.setCell ⟨g i, 1, none⟩ v2) := by
  obtain ⟨j1, j2, j3⟩ := hJ
  have hlt := (K.an.rc i r hr).lt
  have hne : v2.ownBlock ≠ some (g i) := fun e => by
    rcases j3 _ e with q | q
    · exact K.an.own_ne hr q
    · have : (w.alloc (.cells #[.int .i64 pd] 3)).heap.size = w.heap.size + 1 := by simp
      omega
  have b0 := (K.an.rc i r hr).of_eq ((World.grownBy_alloc w (.cells #[.int .i64 pd] 3) none).block _ hlt (by simp))
  have b4 : B.Blk w4 (g i) 160 (ro r (V i) (A i)) := b0.kept j2 (fun e => K.an.own_ne hr e.symm)
  have g4 := grown_setCell' w4 (g i) 1 v2
  refine ⟨hne, b4, j1.of_eq (fun x hx => g4.block x (j1.lt x hx) (fun e => hne (by rw [hx]; exact e))), b4.set 1 v2, ?_⟩
  have k1 : Kp (fun x => x = g i ∨ (V i).ownBlock = some x) (fun x => x = g i ∨ (V i).ownBlock = some x) w (w.alloc (.cells #[.int .i64 pd] 3)) := Kp.of_none (World.grownBy_alloc w _ _)
  have k2 : Kp (fun x => x = g i ∨ (V i).ownBlock = some x) (fun x => x = g i ∨ (V i).ownBlock = some x ∨ v2.ownBlock = some x) (w.alloc (.cells #[.int .i64 pd] 3)) w4 := Kp.of_grown j2 (fun x hx => Or.inr hx) (fun x hx => by
    rcases hx with q | q | q
    · exact Or.inl (Or.inl q)
    · exact Or.inl (Or.inr q)
    · exact (j3 x q).imp Or.inr id)
  exact (k1.trans k2).trans (Kp.of_grown g4 (fun x hx => by cases hx; exact Or.inl rfl) (fun x hx => Or.inl hx))
theorem Tu.shared (K : Tu w0 w z X F L hw sc Q us mk u N f g V A) {i : Nat} {r : Rc} (hr : f i = some r) {pd : Int} (hn : pd ∉ r.ps) {v2 : Value} {w4 w5 : World} {l' : List Int} (hJ : Jn (w.alloc (.cells #[.int .i64 pd] 3)) (V i) (r.ps ++ [pd]) v2 w4)
    (hp : l'.Perm (r.ps ++ [pd])) (hs : l'.Pairwise (· ≤ ·)) (ho : Own w5 v2 l') (hg : (w4.setCell ⟨g i, 1, none⟩ v2).grownBy w5 v2.ownBlock) (ok' : Ok (put f i (some { r with ps := ins pd r.ps })) N) :
    ∃ L', Tu w0 w5 z X F L' hw sc Q us mk u N (put f i (some { r with ps := ins pd r.ps })) g (put' V i v2) A ∧ Kp (Yt X F L z) (Yt X F L' z) w w5 := by
  obtain ⟨h1, h2, h3, h4, h5⟩ := K.joined hr hJ
  rw [srt_ins (K.an.ok.up i r hr) hn hp hs] at ho
  have k5 : Kp (fun x => x = g i ∨ (V i).ownBlock = some x ∨ v2.ownBlock = some x) (fun x => x = g i ∨ (V i).ownBlock = some x ∨ v2.ownBlock = some x) (w4.setCell ⟨g i, 1, none⟩ v2) w5 := Kp.of_grown hg (fun x hx => Or.inr (Or.inr hx)) (fun x hx => Or.inl hx)
  have k := h5.trans k5
  exact K.rowed (q := { r with ps := ins pd r.ps }) hr (h4.kept hg (fun e => h1 e.symm)) ho ⟨k.os, k.tape, k.output, k.size, k.block, fun x hx => k.new x (Or.inr (Or.inr hx))⟩ h1 ok'
theorem jn_shape {w w' : World} {v v' : Value} {l : List Int} {x : Int} (h : Jn w v (l ++ [x]) v' w') : ∃ g c, v' = .slice (some ⟨g, 0, none⟩) (l.length + 1) c := by
  rcases h.1.shape with ⟨_, e⟩ | ⟨g, cap, C, e, _⟩
  · simp at e
  · exact ⟨g, cap, by rw [e, List.length_append]; rfl⟩
set_option maxHeartbeats 1000000 in
theorem Share_ok (T : Tt Y w0 w z hw Q u N f) {id : Int} (hid : wfI id) (pd : Int) : Calls Tryz.prog 26 #[.pointer (some ⟨z.a, 0, none⟩), .int .i64 id, .int .i64 pd] w fun e w' => ∃ e' f', e = .returned (.int .i64 e') ∧ ShS f id pd f' e' ∧ Tl Y w0 z hw Q u N w f' w' := by
  have HT : Hid (Tt Y w0 w z hw Q u N f) := T
  obtain ⟨X, F, L, sc, us, mk, g, V, A, K, o, lb, hY⟩ := T
  have CF : Hid (Calls _ _ _ _ _) := findFor_ok K.an hid pd
  unfold ffP ffE fdP at CF
  have HK : Hid (Tu w0 w z X F L hw sc Q us mk u N f g V A ∧ Ob f A (hel u mk) ∧ P.Lb u (fun _ => none) us mk ∧ Y = Yt X F L z) := ⟨K, o, lb, hY⟩
  clear o lb hY
  cases hr : rcd f id with
  | none =>
    rw [hr] at CF
    simp only [Option.map_none, Option.getD_none, ite_self] at CF
    clear K
    go_enter Tryz.func26, Tryz.ntmps26
    go_wp2_with (go_at_call 78; refine CF.out.mono ?_; rintro e w1 ⟨rfl, hw⟩; obtain rfl := hw.symm; clear hw)
    clear CF
    go_wp2
    go_ret
    exact ⟨200, f, rfl, Or.inl ⟨hr, rfl, rfl⟩, HT.out.tl (Below.refl _ _)⟩
  | some r =>
    rw [hr] at CF
    simp only [Option.map_some, Option.getD_some] at CF
    obtain ⟨h0, hr'⟩ := rcd_some hr
    by_cases h2 : 0 ≤ pd ∧ pd < 16
    · simp only [if_pos h2] at CF
      have c0 : w.cell? ⟨g id.toNat, 0, none⟩ = some (.int .i64 r.pg) := (K.an.rc _ r hr').cell 0
      have CO : Hid (Calls _ _ _ _ _) := of_ok K.an r.pg pd
      clear K
      go_enter Tryz.func26, Tryz.ntmps26
      go_wp2_with (go_at_call 78; refine CF.out.mono ?_; rintro e w1 ⟨rfl, hw⟩; obtain rfl := hw.symm; clear hw)
      clear CF
      go_wp2_with fail
      refine CO.out.mono ?_
      rintro e w1 ⟨j, t, rfl, hOf, hB⟩
      clear CO c0
      have HB : Hid (Below w.heap.size w w1) := hB
      rcases hOf with ⟨k, hk, rfl, rfl⟩ | ⟨hn, rfl, rfl⟩
      · clear hB
        go_wp2
        go_ret
        exact ⟨171, f, rfl, Or.inr ⟨r, hr, Or.inr (Or.inl ⟨h2, ⟨k, hk⟩, rfl, rfl⟩)⟩, HT.out.tl HB.out⟩
      · have K1 := HK.out.1.below hB
        have CT : Hid (Calls _ _ _ _ _) := K1.touch_ok hr' (HK.out.2.1.held hr')
        have HSh : Hid (ShS f id pd (put f id.toNat (some { r with ps := ins pd r.ps })) 0 ∧ pd ∉ r.ps) := ⟨Or.inr ⟨r, hr, Or.inr (Or.inr ⟨h2, hn, rfl, rfl⟩)⟩, fun q => hn _ ⟨r, hr', rfl, q⟩⟩
        have hid' : id.toNat = id.toNat := rfl
        clear hn K1 hB
        generalize id.toNat = i at *
        go_wp2_with fail
        refine CT.out.mono ?_
        rintro e w2 ⟨rfl, X', sc', K2, k2⟩
        clear CT
        have HK2 : Hid (Tu w0 w2 z X' F L hw sc' Q us mk u N f g V A ∧ Kp (Yt X F L z) (Yt X' F L z) w1 w2) := ⟨K2, k2⟩
        obtain ⟨x, cap, hV, hO, hx1, hx2, hx3, _⟩ := K2.an.row hr'
        have c1 : w2.cell? ⟨g i, 1, none⟩ = some (.slice (some ⟨x, 0, none⟩) r.ps.length cap) := by rw [← hV]; exact (K2.an.rc i r hr').cell 1
        have hsz := K2.an.st.lt
        have happ := fun ty => app_one (hO.of_eq (w' := w2.alloc (.cells #[.int .i64 pd] 3)) (fun y hy => (below_new w2 _).block y (hO.lt y hy))) pd w2.heap.size 1 ((B.blk_new w2 [.int .i64 pd] 3).cell 0) (by omega) ty
        have HAP : Hid (∀ ty, ∃ v' w', (Builtin.append_ #[25, 25] ty #[.slice (some ⟨x, 0, none⟩) r.ps.length cap, .slice (some ⟨w2.heap.size, 0, none⟩) 1 1]).run Tryz.prog (w2.alloc (.cells #[.int .i64 pd] 3)) = .ok v' w' ∧ Jn (w2.alloc (.cells #[.int .i64 pd] 3)) (V i) (r.ps ++ [pd]) v' w') := by rw [hV]; exact happ
        have HL : Hid (r.ps.length ≤ 16) := hx3
        have HF : Hid (∀ v' w', Jn (w2.alloc (.cells #[.int .i64 pd] 3)) (V i) (r.ps ++ [pd]) v' w' → B.Blk w' (g i) 160 (ro r (V i) (A i))) := fun v' w' hJ => (K2.joined hr' hJ).2.1
        clear happ hO K2 k2 hV hx1 hx2 hx3
        generalize r.ps.length = nl at *
        go_wp2_with (at_builtin; refine wpList_app rfl (.tmp 41) (.tmp 43) rfl _ _ rfl rfl (HAP.out _) ?_; rintro v2 w4 hJ; obtain ⟨g2, c2, rfl⟩ := jn_shape hJ; have HJ : Hid (Jn (w2.alloc (.cells #[.int .i64 pd] 3)) (V i) (r.ps ++ [pd]) (.slice (some ⟨g2, 0, none⟩) (r.ps.length + 1) c2) w4) := hJ; have e1 : w4.cell? ⟨g i, 1, none⟩ = some (V i) := (HF.out _ _ hJ).cell 1; have f1 := (HF.out _ _ hJ).frozen 1; clear hJ)
        obtain ⟨j1, j2, j3, j4, j5⟩ := HK2.out.1.joined hr' HJ.out
        refine (Sort_ok j3 (by simp) (by have := HL.out; have := HK2.out.1.an.ok.len hr'; simp; omega)).mono ?_
        rintro e w5 ⟨l', rfl, hp, hs, ho, hg⟩
        obtain ⟨L', K5, k5⟩ := HK2.out.1.shared hr' HSh.out.2 HJ.out hp hs ho hg (HSh.out.1.ok HK2.out.1.an.ok)
        have HR : Hid (Tl Y w0 z hw Q u N w (put f i (some { r with ps := ins pd r.ps })) w5) := ⟨_, ⟨X', F, L', sc', us, mk, _, _, _, K5, HK.out.2.1.same hr', HK.out.2.2.1, rfl⟩, by
          rw [HK.out.2.2.2]
          exact ((⟨HB.out.os, HB.out.tape, HB.out.output, HB.out.size, fun x hx _ => HB.out.block x hx, fun x hx => Or.inl hx⟩ : Kp (Yt X F L z) (Yt X F L z) w w1).trans HK2.out.2).trans k5⟩
        clear K5 k5 hg ho hs hp j1 j2 j3 j4 j5 HAP HF
        go_wp2
        go_ret
        exact ⟨0, _, rfl, HSh.out.1, HR.out⟩
    · simp only [if_neg h2] at CF
      clear K
      go_enter Tryz.func26, Tryz.ntmps26
      go_wp2_with (go_at_call 78; refine CF.out.mono ?_; rintro e w1 ⟨rfl, hw⟩; obtain rfl := hw.symm; clear hw)
      clear CF
      go_wp2
      go_ret
      exact ⟨2, f, rfl, Or.inr ⟨r, hr, Or.inl ⟨h2, rfl, rfl⟩⟩, HT.out.tl (Below.refl _ _)⟩
end
end Go.Proofs.YtkbpnkjjmipjfaaGreat.Az
namespace Go.Proofs.YtkbpnkjjmipjfaaGreat.Az
open B P Go.ChangeShapes Go.WideShapes Go.ChangeAt Go.RowKit
set_option linter.unusedVariables false
set_option maxRecDepth 8192

theorem hel_nd (u : Nat) (mk : Ms) : (hel u mk).Nodup := up_nd (hel_sorted u mk)
theorem tks_e {Q : Par} {u : Nat} {us : Us} {mk : Ms} {a e : Nat} {us' : Us} {mk' : Ms} (h : TkS Q u us mk a e us' mk') : e = 0 ∨ (e = 4 ∧ us' = us ∧ mk' = mk ∧ (∀ g, ¬ rmy u mk g) ∧ Q.q u ≤ cU us u 4096) := by
  rcases h with ⟨g, i, _, _, _, rfl, _⟩ | ⟨h0, g, h1, h2⟩
  · exact Or.inl rfl
  · rcases h1 with ⟨rfl, _⟩ | ⟨rfl, _, rfl, h3⟩
    · exact Or.inl rfl
    · rcases h2 with ⟨q, _⟩ | ⟨_, _, rfl⟩
      · cases q
      · exact Or.inr ⟨rfl, rfl, rfl, h0, h3⟩
theorem new_rec (w : World) (pg pd : Int) (at_ : Nat) : ∃ W : World, (w.alloc (.cells #[.int .i64 pd] 3)).alloc (.cells #[.int .i64 pg, .slice (some ⟨w.heap.size, 0, none⟩) 1 1, .int .i64 (-1), .int .i64 (-1), .int .u64 at_] 160) = W ∧ (w.alloc (.cells #[.int .i64 pd] 3)).heap.size = w.heap.size + 1 ∧
    B.Blk W (w.heap.size + 1) 160 (ro ⟨pg, [pd], -1, -1⟩ (.slice (some ⟨w.heap.size, 0, none⟩) 1 1) at_) ∧ Own W (.slice (some ⟨w.heap.size, 0, none⟩) 1 1) [pd] ∧ Below w.heap.size w W := by
  have hs : (w.alloc (.cells #[.int .i64 pd] 3)).heap.size = w.heap.size + 1 := by simp
  have b1 := B.blk_new w [.int .i64 pd] 3
  have b2 := B.blk_new (w.alloc (.cells #[.int .i64 pd] 3)) [.int .i64 pg, .slice (some ⟨w.heap.size, 0, none⟩) 1 1, .int .i64 (-1), .int .i64 (-1), .int .u64 at_] 160
  rw [hs] at b2
  have k1 : Below w.heap.size w (w.alloc (.cells #[.int .i64 pd] 3)) := (Below.refl _ _).alloc (Nat.le_refl _) _
  have k2 : Below (w.heap.size + 1) (w.alloc (.cells #[.int .i64 pd] 3)) ((w.alloc (.cells #[.int .i64 pd] 3)).alloc (.cells #[.int .i64 pg, .slice (some ⟨w.heap.size, 0, none⟩) 1 1, .int .i64 (-1), .int .i64 (-1), .int .u64 at_] 160)) := (Below.refl _ _).alloc (by omega) _
  exact ⟨_, rfl, hs, b2, Own.of_blk (l := [pd]) (b1.of_eq (k2.block _ (by omega))) (by simp) (by unfold maxLen; omega) (by simp) rfl, k1.trans (k2.mono (by omega))⟩
section
variable {Y : Nat → Prop} {w0 w w' : World} {z : Pz} {hw : E.Hw} {Q : Par} {u N : Nat} {f : Rs}
set_option maxHeartbeats 1000000 in
theorem Make_ok (T : Tt Y w0 w z hw Q u N f) (hcn : cn f N < N) (pg pd : Int) : Calls Tryz.prog 25 #[.pointer (some ⟨z.a, 0, none⟩), .int .i64 pg, .int .i64 pd] w fun e w' => ∃ i te e' f', e = .returned (.tuple #[.int .i64 i, .int .i64 e']) ∧ (te = 0 ∨ (te = 4 ∧ pn u * Q.q u ≤ cn f N)) ∧ MkS f pg pd te f' i e' ∧ Tl Y w0 z hw Q u N w f' w' := by
  have HT : Hid (Tt Y w0 w z hw Q u N f) := T
  obtain ⟨X, F, L, sc, us, mk, g, V, A, K, o, lb, hY⟩ := T
  have CH : Hid (Calls _ _ _ _ _) := check_ok K.an pg pd
  have CO : Hid (Calls _ _ _ _ _) := of_ok K.an pg pd
  have HK : Hid (Tu w0 w z X F L hw sc Q us mk u N f g V A ∧ Ob f A (hel u mk) ∧ P.Lb u (fun _ => none) us mk ∧ Y = Yt X F L z) := ⟨K, o, lb, hY⟩
  clear K o lb hY
  by_cases hi : inA pg pd
  · rw [chE_in hi] at CH
    go_enter Tryz.func25, Tryz.ntmps25
    go_wp2_with (go_at_call 73; refine CH.out.mono ?_; rintro e w1 ⟨rfl, hw⟩; obtain rfl := hw.symm; clear hw)
    clear CH
    go_wp2_with fail
    refine CO.out.mono ?_
    rintro e w1 ⟨j, t, rfl, hOf, hB⟩
    clear CO
    have HB : Hid (Below w.heap.size w w1) := hB
    rcases hOf with ⟨k, hk, rfl, rfl⟩ | ⟨hn, rfl, rfl⟩
    · clear hB
      go_wp2
      go_ret2
      exact ⟨0, 0, 171, f, rfl, Or.inl rfl, Or.inr (Or.inl ⟨hi, ⟨k, hk⟩, rfl, rfl, rfl⟩), HT.out.tl HB.out⟩
    · have K1 := HK.out.1.below hB
      have HK1 : Hid (Tu w0 w1 z X F L hw sc Q us mk u N f g V A) := K1
      have c1 := K1.an.c1
      have CT : Hid (Calls Tryz.prog 75 #[.pointer (some ⟨z.s, 0, none⟩)] w1 _) := K1.se.take
      have HN : Hid (∀ k, ¬ Fd f pg pd k) := hn
      clear hB hn K1
      go_wp2_with fail
      refine CT.out.mono ?_
      rintro e w2 ⟨a', e', us', mk', F', rfl, hT, hS, hK⟩
      clear CT c1
      obtain ⟨K2, k2⟩ := HK1.out.slab hS hK
      have kk2 : Kp Y (Yt X F' L z) w w2 := by
        rw [HK.out.2.2.2]
        exact (⟨HB.out.os, HB.out.tape, HB.out.output, HB.out.size, fun x hx _ => HB.out.block x hx, fun x hx => Or.inl hx⟩ : Kp (Yt X F L z) (Yt X F L z) w w1).trans k2
      have HK2 : Hid (Tu w0 w2 z X F' L hw sc Q us' mk' u N f g V A) := K2
      have HKK : Hid (Kp Y (Yt X F' L z) w w2) := kk2
      have HTK : Hid (TkS Q u us mk a' e' us' mk') := hT
      rcases tks_e hT with he | ⟨he, hus, hmk, hfull, hq⟩
      · subst he
        have c2 := K2.an.c2
        have lb' := hT.lb HK.out.2.2.1
        obtain ⟨t1, t2⟩ := hel_take (fun y hy => by
          obtain ⟨_, _, j, c, hj, hc, e⟩ := HK.out.1.se.po.va.us1 y u (HK.out.1.se.lk y hy)
          rw [e]
          exact fm_lt HK.out.1.se.po.ok hj hc) HK.out.1.se.po.ok HK.out.1.se.lk hT
        have HLB : Hid (P.Lb u (fun _ => none) us' mk' ∧ (a' : Int) ∉ hel u mk ∧ ∀ x, x ∈ hel u mk' ↔ x = (a' : Int) ∨ x ∈ hel u mk) := ⟨lb', t1, t2⟩
        obtain ⟨W, hW, hs1, hb, hO, hBW⟩ := new_rec w2 pg pd a'
        clear hT hS hK K2 k2 kk2 lb' t1 t2 c2 HTK
        go_wp2_with fail
        have K3 := HK2.out.below hBW
        have CF := free_ok K3.an
        have c2 := K3.an.c2
        refine CF.mono ?_
        rintro e w3 ⟨i, rfl, hLf, hw3⟩
        obtain rfl := hw3.symm
        clear CF hw3
        obtain ⟨w4, hst, hM, hg⟩ := K3.an.mp.store keyed Tryz.underlying85 (by have := K3.an.nn; unfold maxLen; omega) (x := (i : Int)) (ik_in (by omega) (by have := hLf.leq K3.an.ok; have := K3.an.nn; omega)) ik_inj (.pointer (some ⟨w2.heap.size + 1, 0, none⟩))
        have hMk : MkS f pg pd 0 (put f i (some ⟨pg, [pd], -1, -1⟩)) i 0 := Or.inr (Or.inr (Or.inr ⟨hi, HN.out, rfl, i, hLf, rfl, rfl, rfl⟩))
        have hbl := HK2.out.an.mp.lt
        obtain ⟨L4, T4, k4⟩ := HK2.out.made (q := ⟨pg, [pd], -1, -1⟩) (at_ := a') (c := w2.heap.size) hLf.1 hM (hb.kept hg (some_ne (by omega))) (hO.of_eq (fun x hx => hg.block x (hO.lt x hx) (some_ne (by have e2 : w2.heap.size = x := Option.some.inj hx; omega)))) rfl (by omega) (Nat.le_refl _) (by omega)
          ⟨hg.os.trans hBW.os, hg.tape.trans hBW.tape, hg.output.trans hBW.output, Nat.le_trans hBW.size hg.size, fun x hx hn => (hg.block x (Nat.lt_of_lt_of_le hx hBW.size) (some_ne hn)).trans (hBW.block x hx), fun x hx => hx.elim⟩ (hMk.okn K3.an.ok hcn).1
        have o4 := HK.out.2.1.take (r := ⟨pg, [pd], -1, -1⟩) hLf.1 (hel_nd u mk') HLB.out.2.1 HLB.out.2.2
        have CT := T4.touch_ok (put_same _ _ _) (o4.held (put_same _ _ _))
        rw [put'_same] at CT
        have CT : Hid (Calls _ _ _ _ _) := CT
        have HM4 : Hid (MkS f pg pd 0 (put f i (some ⟨pg, [pd], -1, -1⟩)) i 0 ∧ Kp Y (Yt X F' L4 z) w w4 ∧ Ob (put f i (some ⟨pg, [pd], -1, -1⟩)) (put' A i a') (hel u mk')) := ⟨hMk, HKK.out.trans k4, o4⟩
        clear hMk T4 k4 o4 hM hb hO hLf hbl hBW hW
        go_wp2_with fail
        refine CT.out.mono ?_
        rintro e w5 ⟨rfl, X5, sc5, T5, k5⟩
        clear CT
        go_wp2
        go_ret2
        exact ⟨i, 0, 0, _, rfl, Or.inl rfl, HM4.out.1, _, ⟨X5, F', L4, sc5, us', mk', _, _, _, T5, HM4.out.2.2, HLB.out.1, rfl⟩, HM4.out.2.1.trans k5⟩
      · subst he
        subst hus
        subst hmk
        have hfl : pn u * Q.q u ≤ cn f N := by
          rw [← HK.out.2.1.len HK.out.1.an.ok.far]
          have e1 := P.hl_full hfull 4096
          rw [← P.nf_cU HK.out.2.2.1 (fun g q => by cases q) 4096] at e1
          exact Nat.le_trans (Nat.mul_le_mul_left _ hq) (Nat.le_of_eq e1.symm)
        clear hT hS hK K2 k2 kk2 hfull hq
        go_wp2
        go_ret2
        exact ⟨0, 4, 4, f, rfl, Or.inr ⟨rfl, hfl⟩, Or.inr (Or.inr (Or.inl ⟨hi, HN.out, by decide, rfl, rfl, rfl⟩)), _, ⟨X, F', L, sc, us', mk', g, V, A, HK2.out, HK.out.2.1, HK.out.2.2.1, rfl⟩, HKK.out⟩
  · rw [chE_out hi] at CH
    go_enter Tryz.func25, Tryz.ntmps25
    go_wp2_with (go_at_call 73; refine CH.out.mono ?_; rintro e w1 ⟨rfl, hw⟩; obtain rfl := hw.symm; clear hw)
    clear CH
    go_wp2
    go_ret2
    exact ⟨0, 0, 2, f, rfl, Or.inl rfl, Or.inl ⟨hi, rfl, rfl, rfl⟩, HT.out.tl (Below.refl _ _)⟩
end
end Go.Proofs.YtkbpnkjjmipjfaaGreat.Az
namespace Go.Proofs.YtkbpnkjjmipjfaaGreat.Az
open B P Go.ChangeShapes Go.WideShapes Go.ChangeAt Go.RowKit
set_option linter.unusedVariables false
set_option maxRecDepth 8192

section
variable {Y : Nat → Prop} {w0 w w' : World} {z : Pz} {X F : Nat → Prop} {L : Nat → Nat} {hw : E.Hw} {sc : E.Sc} {Q : Par} {us : Us} {mk : Ms} {u N : Nat} {f : Rs} {g : Nat → Nat} {V : Nat → Value} {A : Nat → Nat} {i : Nat}
theorem Tu.parted (K : Tu w0 w z X F L hw sc Q us mk u N f g V A) {r : Rc} (hr : f i = some r) {k : Nat} {pd : Int} (hk : Plc r.ps pd k) {x cap : Nat} (hV : V i = .slice (some ⟨x, 0, none⟩) r.ps.length cap) {w3 : World} (hg : w.grownBy w3 (some x))
    (ho : Own w3 (.slice (some ⟨x, 0, none⟩) (r.ps.length - 1) cap) (r.ps.take k ++ r.ps.drop (k + 1))) :
    B.Blk w3 (g i) 160 (ro r (V i) (A i)) ∧ B.Blk (w3.setCell ⟨g i, 1, none⟩ (.slice (some ⟨x, 0, none⟩) (r.ps.length - 1) cap)) (g i) 160 (ro { r with ps := r.ps.erase pd } (.slice (some ⟨x, 0, none⟩) (r.ps.length - 1) cap) (A i)) ∧
      Own (w3.setCell ⟨g i, 1, none⟩ (.slice (some ⟨x, 0, none⟩) (r.ps.length - 1) cap)) (.slice (some ⟨x, 0, none⟩) (r.ps.length - 1) cap) (r.ps.erase pd) ∧ x ≠ g i ∧
        Kp (fun y => y = g i ∨ (V i).ownBlock = some y) (fun y => y = g i ∨ (V i).ownBlock = some y) w (w3.setCell ⟨g i, 1, none⟩ (.slice (some ⟨x, 0, none⟩) (r.ps.length - 1) cap)) := by
  have hVo : (V i).ownBlock = some x := by rw [hV]; rfl
  have hne : x ≠ g i := fun e => K.an.own_ne hr (by rw [hVo, e])
  have b3 : B.Blk w3 (g i) 160 (ro r (V i) (A i)) := (K.an.rc i r hr).kept hg (some_ne (fun e => hne e.symm))
  rw [hk.cut] at ho
  generalize hv3 : Value.slice (some ⟨x, 0, none⟩) (r.ps.length - 1) cap = v3 at *
  have g4 := grown_setCell' w3 (g i) 1 v3
  have h3 : v3.ownBlock = some x := by rw [← hv3]; rfl
  refine ⟨b3, b3.set 1 v3, ho.of_eq (fun y hy => g4.block y (ho.lt y hy) (some_ne (by rw [h3] at hy; cases hy; exact hne))), hne, ?_⟩
  exact (Kp.of_grown hg (fun y hy => Or.inr (by rw [hVo]; exact hy)) (fun y hy => Or.inl hy)).trans (Kp.of_grown g4 (fun y hy => by cases hy; exact Or.inl rfl) (fun y hy => Or.inl hy))
theorem Tu.back (K : Tu w0 w z X F L hw sc Q us mk u N (put f i none) g V A) (o : Ob f A (hel u mk)) (lb : P.Lb u (fun _ => none) us mk) {r : Rc} (hr : f i = some r) (hL : L (g i) = 2 * i + 3) : Calls Tryz.prog 82 #[.pointer (some ⟨z.s, 0, none⟩), .int .u64 (A i : Nat)] w fun e w' => e = .returned (.int .i64 0) ∧
    (∃ F' us' mk', Tu w0 w' z X F' L hw sc Q us' mk' u N (put f i none) g V A ∧ Ob (put f i none) A (hel u mk') ∧ P.Lb u (fun _ => none) us' mk' ∧ Kp (Yt X F L z) (Yt X F' L z) w w') ∧ w'.heap[g i]? = w.heap[g i]? := by
  have hA := o.held hr
  obtain ⟨n, hn, hlt⟩ := K.in_ hA
  obtain rfl : n = A i := by omega
  have hn2 := K.co.ok.n2
  obtain ⟨a, y, j, ha, hit⟩ := hit_of_mem hA
  obtain rfl : a = A i := by omega
  obtain ⟨us', mk', hG⟩ : ∃ us' mk', GvS u us mk (A i) 0 us' mk' := ⟨_, _, Or.inl ⟨y, j, hit, rfl, rfl, rfl⟩⟩
  refine (K.se.give (by omega) hG).mono ?_
  rintro e w' ⟨F', rfl, hS, hK⟩
  obtain ⟨K', k'⟩ := K.slab hS hK
  have hgi : g i < w.heap.size := K.an.lt _ (by omega)
  refine ⟨rfl, ⟨F', _, _, K', o.give hr (hel_nd _ _) (hel_give K.se.sl.ml hG), hG.lb lb (fun _ _ => rfl), k'⟩, hK.block _ hgi (fun q => ?_)⟩
  have := K.d2 (g i) (q.imp id Or.inr)
  omega
set_option maxHeartbeats 1000000 in
theorem Leave_ok (T : Tt Y w0 w z hw Q u N f) {id : Int} (hid : wfI id) (pd : Int) : Calls Tryz.prog 27 #[.pointer (some ⟨z.a, 0, none⟩), .int .i64 id, .int .i64 pd] w fun e w' => ∃ m e' f', e = .returned (.tuple #[.int .i64 m, .int .i64 e']) ∧ LvS f id pd f' m e' ∧ Tl Y w0 z hw Q u N w f' w' := by
  have HT : Hid (Tt Y w0 w z hw Q u N f) := T
  obtain ⟨X, F, L, sc, us, mk, g, V, A, K, o, lb, hY⟩ := T
  have CF : Hid (Calls _ _ _ _ _) := findFor_ok K.an hid pd
  unfold ffP ffE fdP at CF
  have HK : Hid (Tu w0 w z X F L hw sc Q us mk u N f g V A ∧ Ob f A (hel u mk) ∧ P.Lb u (fun _ => none) us mk ∧ Y = Yt X F L z) := ⟨K, o, lb, hY⟩
  clear o lb hY
  cases hr : rcd f id with
  | none =>
    rw [hr] at CF
    simp only [Option.map_none, Option.getD_none, ite_self] at CF
    clear K
    go_enter Tryz.func27, Tryz.ntmps27
    go_wp2_with (go_at_call 78; refine CF.out.mono ?_; rintro e w1 ⟨rfl, hw⟩; obtain rfl := hw.symm; clear hw)
    clear CF
    go_wp2
    go_ret2
    exact ⟨0, 200, f, rfl, Or.inl ⟨hr, rfl, rfl, rfl⟩, HT.out.tl (Below.refl _ _)⟩
  | some r =>
    rw [hr] at CF
    simp only [Option.map_some, Option.getD_some] at CF
    obtain ⟨h0, hr'⟩ := rcd_some hr
    obtain ⟨i, rfl⟩ := Int.eq_ofNat_of_zero_le h0
    rw [Int.toNat_natCast] at hr' CF
    by_cases h2 : 0 ≤ pd ∧ pd < 16
    · simp only [if_pos h2] at CF
      obtain ⟨x, cap, hV, hO, hx1, hx2, hx3, _⟩ := K.an.row hr'
      have c1 : w.cell? ⟨g i, 1, none⟩ = some (.slice (some ⟨x, 0, none⟩) r.ps.length cap) := by rw [← hV]; exact (K.an.rc _ r hr').cell 1
      have HL : Hid (r.ps.length ≤ 16 ∧ r.ps.length ≤ cap ∧ cap ≤ maxLen) := ⟨hx3, hx1, hx2⟩
      rcases plc_or r.ps pd with ⟨k, hk⟩ | hk
      · have CI : Hid (Calls Tryz.prog 80 #[.slice (some ⟨x, 0, none⟩) r.ps.length cap, .int .i64 pd] w _) := Index_at hO (by omega) hk
        have HV : Hid (V i = .slice (some ⟨x, 0, none⟩) r.ps.length cap) := hV
        have HPL : Hid (Plc r.ps pd k) := hk
        have HLv : Hid (LvS f (i : Int) pd (put f i (lft r pd)) ((r.ps.erase pd).length : Int) 0) := Or.inr ⟨r, hr, Or.inr (Or.inr ⟨h2, hk.mem, rfl, rfl, rfl⟩)⟩
        have HLE : Hid ((r.ps.erase pd).length = r.ps.length - 1) := List.length_erase_of_mem hk.mem
        have CT : Hid (Calls _ _ _ _ _) := K.touch_ok hr' (HK.out.2.1.held hr')
        have hkb : k < 100 := by have := hk.lt; omega
        clear hV hO hx1 hx2 hx3 hk K
        generalize hnl : r.ps.length = nl at *
        go_enter Tryz.func27, Tryz.ntmps27
        go_wp2_with (go_at_call 78; refine CF.out.mono ?_; rintro e w1 ⟨rfl, hw⟩; obtain rfl := hw.symm; clear hw)
        clear CF
        go_wp2_with (go_at_call 80; refine CI.out.mono ?_; rintro e w1 ⟨rfl, hw⟩; obtain rfl := hw.symm; clear hw)
        clear CI
        go_wp2_with fail
        refine CT.out.mono ?_
        rintro e w2 ⟨rfl, X', sc', K2, k2⟩
        clear CT c1
        have HK2 : Hid (Tu w0 w2 z X' F L hw sc' Q us mk u N f g V A ∧ Kp (Yt X F L z) (Yt X' F L z) w w2) := ⟨K2, k2⟩
        have c1 : w2.cell? ⟨g i, 1, none⟩ = some (.slice (some ⟨x, 0, none⟩) nl cap) := by rw [← HV.out]; exact (K2.an.rc i r hr').cell 1
        have hO2 : Own w2 (.slice (some ⟨x, 0, none⟩) r.ps.length cap) r.ps := by rw [hnl, ← HV.out]; exact K2.an.ow i r hr'
        have CD := Delete_ok hO2 (by rw [hnl]; exact HL.out.2.1) HL.out.2.2 k HPL.out.lt
        rw [hnl] at CD
        clear hO2 K2 k2
        go_wp2_with fail
        refine CD.mono ?_
        rintro e w3 ⟨rfl, hg3, ho3⟩
        clear CD
        obtain ⟨b3, b4, o4, hne, k4⟩ := HK2.out.1.parted hr' HPL.out (by rw [hnl]; exact HV.out) hg3 (by rw [hnl]; exact ho3)
        rw [hnl] at b4 o4 k4
        have e1 : w3.cell? ⟨g i, 1, none⟩ = some (V i) := b3.cell 1
        have f1 := b3.frozen 1
        have H4 : Hid (B.Blk (w3.setCell ⟨g i, 1, none⟩ (.slice (some ⟨x, 0, none⟩) (nl - 1) cap)) (g i) 160 (ro { r with ps := r.ps.erase pd } (.slice (some ⟨x, 0, none⟩) (nl - 1) cap) (A i)) ∧ Own (w3.setCell ⟨g i, 1, none⟩ (.slice (some ⟨x, 0, none⟩) (nl - 1) cap)) (.slice (some ⟨x, 0, none⟩) (nl - 1) cap) (r.ps.erase pd) ∧ x ≠ g i ∧ Kp (fun y => y = g i ∨ (V i).ownBlock = some y) (fun y => y = g i ∨ (V i).ownBlock = some y) w2 (w3.setCell ⟨g i, 1, none⟩ (.slice (some ⟨x, 0, none⟩) (nl - 1) cap))) := ⟨b4, o4, hne, k4⟩
        clear b3 b4 o4 hne k4 hg3 ho3 c1
        by_cases hz : r.ps.erase pd = []
        · have hm0 : nl - 1 = 0 := by rw [← HLE.out, hz]; rfl
          have hlf : lft r pd = none := if_pos hz
          rw [hlf, hz] at HLv
          rw [hm0] at H4 ⊢
          clear HLE hnl
          have hga : g i ≠ z.a := fun e => by
            have h1 := HK2.out.1.an.lg i r hr'
            have h2 := HK2.out.1.an.la
            rw [e] at h1
            omega
          have hgb : g i ≠ z.b := fun e => by
            have h1 := HK2.out.1.an.lg i r hr'
            have h2 := HK2.out.1.an.lb
            rw [e] at h1
            omega
          have hxa : x ≠ z.a ∧ x ≠ z.b := by
            have h1 := HK2.out.1.an.lv i r x hr' (by rw [HV.out]; rfl)
            have h2 := HK2.out.1.an.lb
            have h3 := HK2.out.1.an.la
            exact ⟨fun e => by rw [e] at h1; omega, fun e => by rw [e] at h1; omega⟩
          have hVo : ∀ y, (V i).ownBlock = some y ↔ y = x := fun y => by
            rw [HV.out]
            exact ⟨fun e => (Option.some.inj e).symm, fun e => by rw [e]; rfl⟩
          have mp4 : Mv 3 ik (w3.setCell ⟨g i, 1, none⟩ (.slice (some ⟨x, 0, none⟩) 0 cap)) z.b N (pts f g) := HK2.out.1.an.mp.of_eq (H4.out.2.2.2.block _ HK2.out.1.an.mp.lt (fun q => q.elim (fun e => hgb e.symm) (fun e => hxa.2 ((hVo _).1 e).symm)))
          have st4 : B.Blk (w3.setCell ⟨g i, 1, none⟩ (.slice (some ⟨x, 0, none⟩) 0 cap)) z.a 87 _ := HK2.out.1.an.st.of_eq (H4.out.2.2.2.block _ HK2.out.1.an.st.lt (fun q => q.elim (fun e => hga e.symm) (fun e => hxa.1 ((hVo _).1 e).symm)))
          have a2 : (w3.setCell ⟨g i, 1, none⟩ (.slice (some ⟨x, 0, none⟩) 0 cap)).cell? ⟨z.a, 2, none⟩ = some (.map (some z.b)) := st4.cell 2
          have HDE : Hid (∀ ty, ∃ w', (Builtin.delete_ #[85, 3] ty #[.map (some z.b), .int .i64 (i : Int)]).run Tryz.prog (w3.setCell ⟨g i, 1, none⟩ (.slice (some ⟨x, 0, none⟩) 0 cap)) = .ok (.tuple #[]) w' ∧ (Mv 3 ik w' z.b N (pk (pts f g) (i : Int) none) ∧ (w3.setCell ⟨g i, 1, none⟩ (.slice (some ⟨x, 0, none⟩) 0 cap)).grownBy w' (some z.b))) := fun ty => mp4.drop keyed Tryz.underlying85 (ik_in hid.1 hid.2) ik_inj ty
          have HS5 : Hid (∀ w5, Mv 3 ik w5 z.b N (pk (pts f g) (i : Int) none) → (w3.setCell ⟨g i, 1, none⟩ (.slice (some ⟨x, 0, none⟩) 0 cap)).grownBy w5 (some z.b) → Tu w0 w5 z X' F L hw sc' Q us mk u N (put f i none) g V A ∧ Kp (Yt X' F L z) (Yt X' F L z) w2 w5 ∧ B.Blk w5 (g i) 160 (ro { r with ps := r.ps.erase pd } (.slice (some ⟨x, 0, none⟩) 0 cap) (A i))) := fun w5 hM hG => by
            obtain ⟨s1, s2⟩ := HK2.out.1.struck hr' hM ⟨hG.os.trans H4.out.2.2.2.os, hG.tape.trans H4.out.2.2.2.tape, hG.output.trans H4.out.2.2.2.output, Nat.le_trans H4.out.2.2.2.size hG.size, fun y hy hn => (hG.block y (Nat.lt_of_lt_of_le hy H4.out.2.2.2.size) (some_ne (fun e => hn (Or.inl e)))).trans (H4.out.2.2.2.block y hy (fun e => hn (Or.inr e))), fun y hy => hy.elim⟩
            exact ⟨s1, s2, H4.out.1.kept hG (some_ne hgb)⟩
          clear mp4 st4 hxa hVo hga hgb hm0 hz hlf
          go_wp2_with (at_delete; refine wpList_del rfl (.tmp 56) (.tmp 57) rfl _ _ rfl rfl (HDE.out _) ?_; rintro w5 ⟨hM, hG⟩; have H5 : Hid (Tu w0 w5 z X' F L hw sc' Q us mk u N (put f i none) g V A ∧ Kp (Yt X' F L z) (Yt X' F L z) w2 w5 ∧ B.Blk w5 (g i) 160 (ro { r with ps := r.ps.erase pd } (.slice (some ⟨x, 0, none⟩) 0 cap) (A i))) := HS5.out w5 hM hG; clear hM hG; have y1 : w5.cell? ⟨z.a, 1, none⟩ = some (.pointer (some ⟨z.s, 0, none⟩)) := H5.out.1.an.c1; have y4 : w5.cell? ⟨g i, 4, none⟩ = some (.int .u64 (A i : Nat)) := H5.out.2.2.cell 4)
          have CG : Hid (Calls Tryz.prog 82 #[.pointer (some ⟨z.s, 0, none⟩), .int .u64 (A i : Nat)] w5.drew fun e w' => e = .returned (.int .i64 0) ∧ Tl Y w0 z hw Q u N w (put f i none) w' ∧ w'.cell? ⟨g i, 1, none⟩ = some (.slice (some ⟨x, 0, none⟩) 0 cap)) := by
            refine ((H5.out.1.below (Below.refl _ _).drew).back HK.out.2.1 HK.out.2.2.1 hr' (HK2.out.1.an.lg i r hr')).mono ?_
            rintro e w6 ⟨rfl, ⟨F', us', mk', K6, o6, l6, k6⟩, hh⟩
            have e6 : w6.heap[g i]? = w5.heap[g i]? := hh
            refine ⟨rfl, ⟨_, ⟨X', F', L, sc', us', mk', _, _, _, K6, o6, l6, rfl⟩, ?_⟩, (H5.out.2.2.of_eq e6).cell 1⟩
            rw [HK.out.2.2.2]
            exact ((HK2.out.2.trans H5.out.2.1).trans (⟨rfl, rfl, rfl, Nat.le_refl _, fun _ _ _ => rfl, fun x hx => Or.inl hx⟩ : Kp (Yt X' F L z) (Yt X' F L z) w5 w5.drew)).trans k6
          clear a2 HDE HS5 e1 f1
          go_region_with (go_at_call 82; refine CG.out.mono ?_; rintro e w6 ⟨rfl, hT, d1⟩; have HT6 : Hid (Tl Y w0 z hw Q u N w (put f i none) w6) := hT; clear hT)
          all_goals
            clear y1 y4
            go_wp2
            go_ret2
            exact ⟨0, 0, _, rfl, HLv.out, HT6.out⟩
        · have hpos : 0 < nl - 1 := by
            have := List.length_pos_iff.2 hz
            rw [HLE.out] at this
            exact this
          rw [HLE.out] at HLv
          have hlf : lft r pd = some { r with ps := r.ps.erase pd } := if_neg hz
          rw [hlf] at HLv
          obtain ⟨L5, K5, k5⟩ := HK2.out.1.rowed (q := { r with ps := r.ps.erase pd }) (v' := .slice (some ⟨x, 0, none⟩) (nl - 1) cap) hr' H4.out.1 H4.out.2.1 ⟨H4.out.2.2.2.os, H4.out.2.2.2.tape, H4.out.2.2.2.output, H4.out.2.2.2.size, H4.out.2.2.2.block, fun y hy => H4.out.2.2.2.new y (Or.inr (by rw [HV.out]; exact hy))⟩ (fun e => H4.out.2.2.1 (Option.some.inj e)) (HLv.out.ok HK2.out.1.an.ok)
          have HR : Hid (Tl Y w0 z hw Q u N w (put f i (some { r with ps := r.ps.erase pd })) (w3.setCell ⟨g i, 1, none⟩ (.slice (some ⟨x, 0, none⟩) (nl - 1) cap))) := ⟨_, ⟨X', F, L5, sc', us, mk, _, _, _, K5, HK.out.2.1.same hr', HK.out.2.2.1, rfl⟩, by
            rw [HK.out.2.2.2]
            exact HK2.out.2.trans k5⟩
          clear K5 k5 H4 HLE hnl hz hlf
          generalize nl - 1 = m at *
          go_wp2
          go_ret2
          exact ⟨m, 0, _, rfl, HLv.out, HR.out⟩
      · have CI : Hid (Calls Tryz.prog 80 #[.slice (some ⟨x, 0, none⟩) r.ps.length cap, .int .i64 pd] w _) := Index_no hO (by omega) hk
        clear hV hO hx1 hx2 hx3 K
        generalize r.ps.length = nl at *
        go_enter Tryz.func27, Tryz.ntmps27
        go_wp2_with (go_at_call 78; refine CF.out.mono ?_; rintro e w1 ⟨rfl, hw⟩; obtain rfl := hw.symm; clear hw)
        clear CF
        go_wp2_with (go_at_call 80; refine CI.out.mono ?_; rintro e w1 ⟨rfl, hw⟩; obtain rfl := hw.symm; clear hw)
        clear CI
        go_wp2
        go_ret2
        exact ⟨0, 220, f, rfl, Or.inr ⟨r, hr, Or.inr (Or.inl ⟨h2, hk, rfl, rfl, rfl⟩)⟩, HT.out.tl (Below.refl _ _)⟩
    · simp only [if_neg h2] at CF
      clear K
      go_enter Tryz.func27, Tryz.ntmps27
      go_wp2_with (go_at_call 78; refine CF.out.mono ?_; rintro e w1 ⟨rfl, hw⟩; obtain rfl := hw.symm; clear hw)
      clear CF
      go_wp2
      go_ret2
      exact ⟨0, 2, f, rfl, Or.inr ⟨r, hr, Or.inl ⟨h2, rfl, rfl, rfl⟩⟩, HT.out.tl (Below.refl _ _)⟩
end
end Go.Proofs.YtkbpnkjjmipjfaaGreat.Az
namespace Go.Proofs.YtkbpnkjjmipjfaaGreat.Az
open B P Go.ChangeShapes Go.WideShapes Go.ChangeAt Go.RowKit
set_option linter.unusedVariables false
set_option maxRecDepth 8192

structure Cs (w0 w : World) (X F : Nat → Prop) (h s q p : Nat) (hw : E.Hw) (sc : E.Sc) (Q : Par) (u : Nat) : Prop where
  co : E.Cr E.pK w X h hw sc
  xl : ∀ x, X x → w0.heap.size ≤ x
  se : P.Se w0 w F p Q (fun _ => none) s q u (fun _ => 0)
  d1 : ∀ x, X x → ¬ F x ∧ x ≠ s ∧ x ≠ q
  nn : Q.N * Q.C ≤ hw.n
section
variable {w0 w w' : World} {X F : Nat → Prop} {h s q p : Nat} {hw : E.Hw} {sc : E.Sc} {Q : Par} {u N : Nat}
theorem Cs.below (K : Cs w0 w X F h s q p hw sc Q u) (k : Below w.heap.size w w') : Cs w0 w' X F h s q p hw sc Q u := { K with co := K.co.below k, se := K.se.below k }
theorem Cs.flt (K : Cs w0 w X F h s q p hw sc Q u) : ∀ x, (F x ∨ x = s ∨ x = q) → x < w.heap.size := by
  rintro x (h | rfl | rfl)
  · exact K.se.po.lt x h
  · exact K.se.sl.lt
  · exact K.se.sl.mp.lt
theorem Cs.core (K : Cs w0 w X F h s q p hw sc Q u) {sc' : E.Sc} (G : E.Gv E.pK w X h hw sc' w') : ∃ X', Cs w0 w' X' F h s q p hw sc' Q u := by
  obtain ⟨X', co', k⟩ := G
  have k := kpC k
  refine ⟨X', co', fun x hx => ?_, se_kept K.se k K.xl K.d1, fun x hx => ?_, K.nn⟩
  · rcases k.new x hx with y | y
    · exact K.xl x y
    · exact Nat.le_trans K.se.be.size y
  · rcases k.new x hx with y | y
    · exact K.d1 x y
    · refine ⟨fun y' => ?_, fun y' => ?_, fun y' => ?_⟩
      · have := K.flt x (Or.inl y'); omega
      · have := K.flt x (Or.inr (Or.inl y')); omega
      · have := K.flt x (Or.inr (Or.inr y')); omega
theorem Cs.slab (K : Cs w0 w X F h s q p hw sc Q u) {F' : Nat → Prop} (S : P.Se w0 w' F' p Q (fun _ => none) s q u (fun _ => 0)) (k : Kp (fun x => F x ∨ x = q) (fun x => F' x ∨ x = q) w w') : Cs w0 w' X F' h s q p hw sc Q u := by
  refine ⟨K.co.of_eq k.size (fun x hx => k.block x (K.co.lt x hx) (fun y => ?_)), K.xl, S, fun x hx => ?_, K.nn⟩
  · obtain ⟨h1, h2, h3⟩ := K.d1 x hx
    rcases y with y | y
    · exact h1 y
    · exact h3 y
  · obtain ⟨h1, h2, h3⟩ := K.d1 x hx
    refine ⟨fun y => ?_, h2, h3⟩
    rcases k.new x (Or.inl y) with (y' | y') | y'
    · exact h1 y'
    · exact h3 y'
    · have := K.co.lt x hx; omega
theorem coreMade_ok (co : E.Cr E.pK w X h hw sc) : Calls Tryz.prog 50 #[.pointer (some ⟨h, 0, none⟩)] w fun e w' => e = .returned (.bool true) ∧ E.Gv E.pK w X h hw sc w' := by
  have CT : Hid (Calls Tryz.prog 99 #[.pointer (some ⟨h, 0, none⟩), .slice none 0 0] w fun e w' => (∃ x y, e = .returned (.tuple #[.agg #[.bool x, .bool y], .int .i64 0])) ∧ E.Gv E.pK w X h hw sc w') := by
    refine (E.Touch_ok (c := 0) (l := 0) (f := fun _ => 0) (ao := none) co (by unfold maxLen; omega) (Or.inl rfl) (fun q => absurd q (by omega)) (fun i hi => absurd hi (by omega))).mono ?_
    rintro e w' ⟨rfl, hG⟩
    exact ⟨⟨_, _, rfl⟩, hG⟩
  clear co
  go_enter Tryz.func50, Tryz.ntmps50
  go_wp2_with fail
  refine CT.out.mono ?_
  rintro e w1 ⟨⟨x, y, rfl⟩, hG⟩
  have HG : Hid (∀ o, E.Gv E.pK w X h hw sc (w1.alloc o)) := fun o => hG.below ((Below.refl _ _).alloc (Nat.le_refl _) _)
  clear CT hG
  go_wp2
  go_ret
  exact ⟨rfl, HG.out _⟩
theorem slabMade_ok (K : Cs w0 w X F h s q p hw sc Q u) : Calls Tryz.prog 51 #[.pointer (some ⟨s, 0, none⟩)] w fun e w' => e = .returned (.bool true) ∧ ∃ F', Cs w0 w' X F' h s q p hw sc Q u := by
  have CG := K.se.give (a := 18446744073709551615) (e := 91) (us' := fun _ => none) (mk' := fun _ => 0) (by omega) (Or.inr ⟨fun g i z => by have := z.2.2; simp at this, rfl, rfl, rfl⟩)
  rw [show ((18446744073709551615 : Nat) : Int) = 18446744073709551615 from rfl] at CG
  have CG' : Hid (Calls Tryz.prog 82 #[.pointer (some ⟨s, 0, none⟩), .int .u64 18446744073709551615] w fun e w' => e = .returned (.int .i64 91) ∧ ∃ F', Cs w0 w' X F' h s q p hw sc Q u) := by
    refine CG.mono ?_
    rintro e w' ⟨F', rfl, hS, hK⟩
    exact ⟨rfl, F', K.slab hS hK⟩
  clear K CG
  go_enter Tryz.func51, Tryz.ntmps51
  go_wp2_with fail
  refine CG'.out.mono ?_
  rintro e w1 ⟨rfl, hT⟩
  clear CG'
  go_wp2
  go_ret
  exact ⟨rfl, hT⟩
theorem Cs.tt (K : Cs w0 w X F h s q p hw sc Q u) (hN : N ≤ 100000) {w2 : World} (hw2 : w2 = (w.alloc (.map #[] 0)).alloc (.cells #[.pointer (some ⟨h, 0, none⟩), .pointer (some ⟨s, 0, none⟩), .map (some w.heap.size)] 87)) :
    ∃ Y, Tt Y w0 w2 ⟨w.heap.size + 1, w.heap.size, h, s, q, p⟩ hw Q u N (fun _ => none) := by
  have hs : (w.alloc (.map #[] 0)).heap.size = w.heap.size + 1 := by simp
  have k1 : Below w.heap.size w (w.alloc (.map #[] 0)) := (Below.refl _ _).alloc (Nat.le_refl _) _
  have k2 : Below (w.heap.size + 1) (w.alloc (.map #[] 0)) w2 := by rw [hw2]; exact (Below.refl _ _).alloc (by omega) _
  have hb := B.blk_new (w.alloc (.map #[] 0)) [.pointer (some ⟨h, 0, none⟩), .pointer (some ⟨s, 0, none⟩), .map (some w.heap.size)] 87
  rw [hs] at hb
  have hb : B.Blk w2 (w.heap.size + 1) 87 [.pointer (some ⟨h, 0, none⟩), .pointer (some ⟨s, 0, none⟩), .map (some w.heap.size)] := by rw [hw2]; exact hb
  have hm : Mv 3 ik w2 w.heap.size N (pts (fun _ => none) (fun _ => 0)) := by
    have m0 : Mv 3 ik (w.alloc (.map #[] 0)) w.heap.size 0 (fun _ => none) := mv_new w
    refine ((m0.of_eq (k2.block _ (by omega))).more (Nat.zero_le _)).congr (fun x => ?_)
    unfold pts rcd
    split <;> rfl
  have K2 := K.below (k1.trans (k2.mono (by omega)))
  have hlt := hb.lt
  have an : An w2 (fun x => if x = w.heap.size + 1 then 1 else if x = w.heap.size then 2 else 0) (w.heap.size + 1) h s w.heap.size N (fun _ => none) (fun _ => 0) (fun _ => .slice none 0 0) (fun _ => 0) :=
    ⟨hb, hm, Ok.nil.more (Nat.zero_le _), hN, nofun, nofun, if_pos rfl, by show (if w.heap.size = w.heap.size + 1 then 1 else if w.heap.size = w.heap.size then 2 else 0) = 2; rw [if_neg (by omega), if_pos rfl], nofun, nofun, fun x hx => by
      by_cases e1 : x = w.heap.size + 1
      · omega
      · by_cases e2 : x = w.heap.size
        · omega
        · have hx' : (if x = w.heap.size + 1 then 1 else if x = w.heap.size then 2 else 0) ≠ 0 := hx
          rw [if_neg e1, if_neg e2] at hx'
          exact absurd rfl hx'⟩
  have old : ∀ x, x < w.heap.size → (if x = w.heap.size + 1 then 1 else if x = w.heap.size then 2 else 0) = 0 := fun x hx => by rw [if_neg (by omega), if_neg (by omega)]
  refine ⟨_, X, F, _, sc, _, _, _, _, _, ⟨K2.co, K2.xl, K2.se, an, fun x hx => ?_, fun x hx => ⟨(K.d1 x hx).1, (K.d1 x hx).2.1, (K.d1 x hx).2.2, old x (K.co.lt x hx)⟩, fun x hx => old x (K.flt x hx), K.nn⟩, ?_, fun g => ?_, rfl⟩
  · have h0 := K.se.be.size
    by_cases e1 : x < w.heap.size
    · exact absurd (old x e1) hx
    · omega
  · have e : hel u (fun _ => 0) = [] := by
      unfold hel
      simp [P.adr_zero]
    rw [e]
    exact Ob.nil _
  · simp
theorem New_ok (K : Cs w0 w X F h s q p hw sc Q u) (hN : N ≤ 100000) : Calls Tryz.prog 12 #[.pointer (some ⟨h, 0, none⟩), .pointer (some ⟨s, 0, none⟩)] w fun e w' => ∃ (z : Pz) (Y : Nat → Prop), e = .returned (.tuple #[.pointer (some ⟨z.a, 0, none⟩), .int .i64 0]) ∧ z.s = s ∧ Tt Y w0 w' z hw Q u N (fun _ => none) := by
  have C1 : Hid (Calls Tryz.prog 50 #[.pointer (some ⟨h, 0, none⟩)] w fun e w' => e = .returned (.bool true) ∧ ∃ X', Cs w0 w' X' F h s q p hw sc Q u) := by
    refine (coreMade_ok K.co).mono ?_
    rintro e w' ⟨rfl, hG⟩
    exact ⟨rfl, K.core hG⟩
  clear K
  go_enter Tryz.func12, Tryz.ntmps12
  go_wp2_with fail
  refine C1.out.mono ?_
  rintro e w1 ⟨rfl, X1, K1⟩
  have C2 : Hid (Calls _ _ _ _ _) := slabMade_ok K1
  clear C1 K1
  go_wp2_with fail
  refine C2.out.mono ?_
  rintro e w2 ⟨rfl, F2, K2⟩
  clear C2
  have HF : Hid (∀ w', w' = (w2.alloc (.map #[] 0)).alloc (.cells #[.pointer (some ⟨h, 0, none⟩), .pointer (some ⟨s, 0, none⟩), .map (some w2.heap.size)] 87) → ∃ Y, Tt Y w0 w' ⟨w2.heap.size + 1, w2.heap.size, h, s, q, p⟩ hw Q u N (fun _ => none)) := fun w' e => K2.tt hN e
  have hs : (w2.alloc (.map #[] 0)).heap.size = w2.heap.size + 1 := by simp
  clear K2
  have hmm := @run_makeMap Tryz.prog
  go_wp2
  go_ret2
  obtain ⟨Y, hT⟩ := HF.out _ rfl
  exact ⟨⟨w2.heap.size + 1, w2.heap.size, h, s, q, p⟩, Y, rfl, rfl, hT⟩
end
end Go.Proofs.YtkbpnkjjmipjfaaGreat.Az
