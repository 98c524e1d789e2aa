/- The law TlbPlays walked. -/
import Derived.Test.YtkgmdalekakgpaaPw
import Derived.Deep.AppendLies
namespace Go.Proofs.Ytkgmdalekakgpaa
open Go.ChangeShapes Go.WideShapes Go.ChangeAt Go.RowKit
set_option linter.unusedVariables false
set_option linter.unusedSimpArgs false

theorem Bth.start {w w1 w2 : World} {p q n : Nat} {F G : Nat → Prop} (c : Ca w1 F p n []) (k : Kp (fun _ => False) F w w1) (d : Ca w2 G q n []) (k' : Kp (fun _ => False) G w1 w2) : Bth p q n (fun k => k < w.heap.size) w w2 [] [] := by
  refine ⟨F, G, c.kept k' (fun _ _ q => q), d, fun i hf hg => ?_, fun i hi z => ?_, fun i hi z => ?_, ?_⟩
  · rcases k'.new i hg with q | q
    · exact q
    · have := c.lt i hf; omega
  · rcases k.new i z with q | q
    · exact q
    · omega
  · have := k.size
    rcases k'.new i z with q | q
    · exact q
    · omega
  · have b1 := k.below w.heap.size (Nat.le_refl _) (fun i q => q.elim)
    have b2 := k'.below w.heap.size k.size (fun i q => q.elim)
    have b := b1.trans b2
    exact ⟨b.os, b.tape, b.output, b.size, b.block, fun i hi => hi⟩
def y8 : Tr := ⟨0, -8, 0, false, false, false⟩
def y9 : Tr := ⟨0, -9, 0, false, false, false⟩
set_option maxRecDepth 100000 in
set_option maxHeartbeats 4000000 in
theorem plays_there (w : World) (n : Nat) (n1 : 1 ≤ n) (n64 : n ≤ 64) (al : Option Addr) (ll cl : Nat) (hl : ll ≤ maxLen) (D : Dos w al ll) :
    Calls Try.prog 3 #[.int .i64 n, .slice al ll cl] w fun e w' => e = .returned (.bool true) ∧ Below w.heap.size w w' := by
  unfold maxLen at hl
  obtain ⟨i0, hi0, hz0, hz1, hz2⟩ := info_parts Try.infoT
  have HD : Hid (Dos w al ll) := D
  clear D
  have C1 : Hid (Calls _ _ _ _ _) := New_ok n n1 n64 w
  have C2 : Hid (∀ W, Calls Try.prog 9 #[.int .i64 n] W fun e w' => ∃ p F, e = .returned (.tuple #[.pointer (some ⟨p, 0, none⟩), .int .i64 0]) ∧ Ca w' F p n [] ∧ Kp (fun _ => False) F W w') := fun W => RNew_ok n n1 n64 W
  clear n1 n64
  go_enter Try.func3, Try.ntmps3
  go_wp2_with fail
  refine C1.out.mono ?_
  rintro e w1 ⟨p, F, rfl, hC, hK⟩
  have CA : Hid (Ca w1 F p n []) := hC
  have KA : Hid (Kp (fun _ => False) F w w1) := hK
  clear hC hK
  go_wp2_with fail
  refine (C2.out w1).mono ?_
  rintro e w2 ⟨q, G, rfl, hC, hK⟩
  have S0 : Hid (Bth p q n (fun k => k < w.heap.size) w w2 [] []) := Bth.start CA.out KA.out hC hK
  have O : Hid (Orc (thA n) (some ⟨p, 0, none⟩) (some ⟨q, 0, none⟩) (Bth p q n)) := orc_th p q n
  clear hC hK CA KA C1 C2
  go_wp2_with fail
  go_loopw [9] (fun i wr => ∃ k : Nat, k ≤ ll ∧ k ≤ 100 ∧ i = .int .i64 k ∧ ∃ l, Bth p q n (fun k => k < w.heap.size) w wr l l) (fun i _ => ll - (intOf i).toNat)
  case atStart => exact ⟨0, by omega, by omega, rfl, _, S0.out⟩
  case round =>
    clear S0
    obtain ⟨k, hk, hk2, rfl, l0, hS⟩ := hrel
    have S3 : Hid (Bth p q n (fun k => k < w.heap.size) w wr l0 l0) := hS
    clear hS
    by_cases a1 : k < ll ∧ k < 100
    · obtain ⟨a1, a2⟩ := a1
      obtain ⟨b, off, Kd, x, e1, hb, hd⟩ := HD.out k a1
      subst e1
      have hd2 := hd.of_eq ((O.out.kpt S3.out).block b hb)
      have d0 := hd2.k
      have d1 : wr.cell? ⟨b, off + k * 7 + 1, none⟩ = some (.int .i64 x.a) := hd2.six 0 _ rfl
      have d2 : wr.cell? ⟨b, off + k * 7 + 2, none⟩ = some (.int .i64 x.p) := hd2.six 1 _ rfl
      have d3 : wr.cell? ⟨b, off + k * 7 + 3, none⟩ = some (.int .i64 x.f) := hd2.six 2 _ rfl
      have d4 : wr.cell? ⟨b, off + k * 7 + 4, none⟩ = some (.bool x.r) := hd2.six 3 _ rfl
      have d5 : wr.cell? ⟨b, off + k * 7 + 5, none⟩ = some (.bool x.w) := hd2.six 4 _ rfl
      have d6 : wr.cell? ⟨b, off + k * 7 + 6, none⟩ = some (.bool x.d) := hd2.six 5 _ rfl
      have CD : Hid (Calls _ _ _ _ _) := done_any O.out S3.out Kd x hd.k0 hd.k1
      clear hd2 hd
      go_wp2_with fail
      refine CD.out.mono ?_
      rintro e w4 ⟨rfl, l, hS⟩
      have S4 : Hid (Bth p q n (fun k => k < w.heap.size) w w4 l l) := hS
      obtain ⟨hl64, _⟩ := O.out.len hS
      clear hS S3 CD d0 d1 d2 d3 d4 d5 d6
      go_wp2_with fail
      refine (O.out.all1 S4.out).mono ?_
      rintro e w5 ⟨va, rfl, oa, hb5⟩
      have A5 : Hid (Own w4.heap.size w5 va l) := oa
      have B5 : Hid (Below w4.heap.size w4 w5) := hb5
      have hs5 := hb5.size
      clear oa hb5
      go_wp2_with fail
      refine (O.out.all1 (O.out.below S4.out B5.out)).mono ?_
      rintro e w6 ⟨vb, rfl, ob, hb6⟩
      have V6 : Hid (Own w5.heap.size w6 vb l) := ob
      have A6 : Hid (Own w4.heap.size w6 va l) := A5.out.below hb6
      have B6 : Hid (Below w4.heap.size w4 w6) := B5.out.trans (hb6.mono hs5)
      have hs6 := hb6.size
      clear ob hb6
      go_wp2_with fail
      refine (O.out.all2 (O.out.below S4.out B6.out)).mono ?_
      rintro e w7 ⟨vc, rfl, oc, hb7⟩
      have V7 : Hid (Own w5.heap.size w7 vb l) := V6.out.below hb7
      have A7 : Hid (Own w4.heap.size w7 va l) := A6.out.below hb7
      have B7 : Hid (Below w4.heap.size w4 w7) := B6.out.trans (hb7.mono (by omega))
      have hs7 := hb7.size
      have CS : Hid (Calls _ _ _ _ _) := same_any A7.out oc (by omega)
      clear oc hb7
      go_wp2_with fail
      refine CS.out.mono ?_
      rintro e w8 ⟨rfl, hb8⟩
      have V8 : Hid (Own w5.heap.size w8 vb l) := V7.out.below hb8
      have A8 : Hid (Own w4.heap.size w8 va l) := A7.out.below hb8
      have B8 : Hid (Below w4.heap.size w4 w8) := B7.out.trans (hb8.mono (by omega))
      have hs8 := hb8.size
      have HGA : Hid (∀ g, va.ownBlock = some g → g < w5.heap.size) := fun g hg => (A5.out.lt g hg).2
      have HGB : Hid (∀ g, vb.ownBlock = some g → w5.heap.size ≤ g ∧ g < w6.heap.size) := fun g hg => V6.out.lt g hg
      obtain ⟨va0, vac, hva⟩ := A8.out.len
      subst hva
      clear hb8 CS A5 A6 A7 V6 V7 B5 B6 B7
      go_wp2_with fail
      go_loopw [12] (fun i wx => ∃ j : Nat, j ≤ l.length ∧ i = .int .i64 j ∧ ∃ L : List Tr, L.length = l.length ∧ Own w4.heap.size wx (.slice va0 l.length vac) L ∧ Own w5.heap.size wx vb l ∧ Below w4.heap.size w4 wx ∧ w6.heap.size ≤ wx.heap.size) (fun i _ => l.length - (intOf i).toNat)
      case atStart => exact ⟨0, by omega, rfl, l, rfl, A8.out, V8.out, B8.out, by omega⟩
      case round =>
        clear A8 V8 B8 hs8 hs7
        obtain ⟨j, hj, rfl, L, hL, oa, ob, hbx, hsx⟩ := hrel
        have HA : Hid (Own w4.heap.size wr (.slice va0 l.length vac) L) := oa
        have HV : Hid (Own w5.heap.size wr vb l) := ob
        have HB : Hid (Below w4.heap.size w4 wr) := hbx
        have hs4 := hbx.size
        clear oa ob hbx
        by_cases hjl : j < l.length
        · obtain ⟨ga, capa, e1, st⟩ := HA.out.store (j := j) (by omega) y9
          obtain ⟨ga', capa', e2, ⟨d0, d1, d2, d3, d4, d5⟩, hfz, hgl, hc1, hc2⟩ := HA.out.cell (List.getElem?_eq_getElem (by omega : j < L.length))
          rw [hL] at e1
          cases e1
          rw [hL] at e2
          cases e2
          have f0 := hfz (j * 6)
          have f1 := hfz (j * 6 + 1)
          have f2 := hfz (j * 6 + 2)
          have f3 := hfz (j * 6 + 3)
          have f4 := hfz (j * 6 + 4)
          have f5 := hfz (j * 6 + 5)
          unfold y9 at st
          have hga := HGA.out ga rfl
          have ST : Hid (Own w4.heap.size _ _ _) := st
          have hB4 : w4.heap.size ≤ ga := (HA.out.lt ga rfl).1
          have HG6 : Hid (wr.grownBy _ (some ga)) := grown6 wr ga (j * 6) (j * 6 + 1) (j * 6 + 2) (j * 6 + 3) (j * 6 + 4) (j * 6 + 5) (.int .i64 0) (.int .i64 (-9)) (.int .i64 0) (.bool false) (.bool false) (.bool false)
          have HV2 : Hid (Own w5.heap.size _ vb l) := HV.out.of_eq (fun g hg => HG6.out.block g (HV.out.lt g hg).2 (some_ne (by have := (HV.out.lt g hg).1; omega)))
          have HB2 : Hid (Below w4.heap.size w4 _) := HB.out.grown HG6.out HB.out.size (fun i hi => by injection hi with hi; omega)
          have hsz6 := HG6.out.size
          clear st hfz
          unfold maxLen at hc2
          go_wp2_with fail
          go_roundw
          case rel => exact ⟨j + 1, by omega, by go_num, _, by rw [List.length_set]; exact hL, ST.out, HV2.out, HB2.out, Nat.le_trans hsx hsz6⟩
          case measure => simp [intOf]; omega
        · obtain rfl : j = l.length := by omega
          obtain ⟨w9, hw9⟩ : ∃ w9, w9 = wr := ⟨_, rfl⟩
          go_wp2_with fail
          go_loopw [10, 13] (fun v i wx => ∃ j : Nat, j ≤ 70 ∧ i = .int .i64 j ∧ ∃ L : List Tr, L.length ≤ 64 + j ∧ Own w4.heap.size wx v L ∧ (∀ g, v.ownBlock = some g → g < w5.heap.size ∨ w6.heap.size ≤ g) ∧ Own w5.heap.size wx vb l ∧ Below w4.heap.size w4 wx ∧ w6.heap.size ≤ wx.heap.size) (fun _ i _ => 70 - (intOf i).toNat)
          case atStart => exact ⟨0, by omega, rfl, L, by omega, HA.out, fun g hg => Or.inl (HGA.out g hg), HV.out, HB.out, hsx⟩
          case round =>
            clear HA HV HB hs4 hsx hw9
            obtain ⟨i, hi, rfl, L, hL, oa, hga, ob, hbx, hsx⟩ := hrel
            have HA : Hid (wr.ownsRow w4.heap.size 32 6 u10 L.length (tv L)) := oa
            have HGG : Hid (∀ g, u10.ownBlock = some g → g < w5.heap.size ∨ w6.heap.size ≤ g) := hga
            have HV : Hid (Own w5.heap.size wr vb l) := ob
            have HB : Hid (Below w4.heap.size w4 wr) := hbx
            have hs4 := hbx.size
            clear oa ob hbx hga
            by_cases hi7 : i < 70
            · have HN : Hid (∀ j u, (tc y8)[j]? = some u → (wr.alloc (.cells #[.int .i64 0, .int .i64 (-8), .int .i64 0, .bool false, .bool false, .bool false] 32)).cell? ((⟨wr.heap.size, 0, none⟩ : Addr).add j) = some u) := box_cells wr y8 32
              have HT : Hid (∀ v ∈ tc y8, v.oneCell' = true) := tc_one y8
              have HL2 : Hid (Own w5.heap.size (wr.alloc (.cells #[.int .i64 0, .int .i64 (-8), .int .i64 0, .bool false, .bool false, .bool false] 32)) vb l) := HV.out.below (below_new _ _)
              go_wp2_with (at_builtin; refine wpList_append_lies _ rfl (.tmp 75) (.tmp 77) 35 rfl w4.heap.size 32 i0 _ 6 32 Try.underlying35 hi0 hz0 hz1 hz2 rfl (by decide) _ L.length (tv L) rfl (World.ownsRow.alloc HA.out _) ⟨wr.heap.size, 0, none⟩ 1 1 (tc y8) rfl rfl HN.out HT.out (by omega) (by unfold maxLen; omega) (by omega) (by simp; omega) (wr.heap.size + 1) (by simp) ?_; intro g3 cap3 w3 o3 gr3 at3 lt3)
              go_roundw
              case rel =>
                refine ⟨i + 1, by omega, by go_num, L ++ [y8], by simp; omega, ?_, ?_, ?_, (HB.out.alloc hs4 _).grown gr3 (by simp; omega) (fun k hk => (HA.out.lt k hk).1), ?_⟩
                · unfold Own
                  rw [tv_app, List.length_append, show tv [y8] = tc y8 by simp [tv]]
                  exact o3
                · intro g hg
                  cases hg
                  rcases at3 with q | q
                  · exact HGG.out _ q
                  · exact Or.inr (by show w6.heap.size ≤ g3; omega)
                · refine HL2.out.of_eq (fun g hg => gr3.block g (HL2.out.lt g hg).2 (fun e => ?_))
                  have h1 := HGB.out g hg
                  have h2 := HGG.out g e.symm
                  omega
                · have := gr3.size
                  simp at this
                  omega
              case measure => simp [intOf]; omega
            · obtain rfl : i = 70 := by omega
              have S9 : Hid (Bth p q n (fun k => k < w.heap.size) w wr l l) := O.out.below S4.out HB.out
              clear HB
              go_wp2_with fail
              refine (O.out.all2 S9.out).mono ?_
              rintro e w10 ⟨vd, rfl, od, hb10⟩
              have S10 : Hid (Bth p q n (fun k => k < w.heap.size) w w10 l l) := O.out.below S9.out hb10
              have CS : Hid (Calls _ _ _ _ _) := same_any (HV.out.below hb10) od (by omega)
              clear od hb10 S9
              go_wp2_with fail
              refine CS.out.mono ?_
              rintro e w11 ⟨rfl, hb11⟩
              have S11 : Hid (Bth p q n (fun k => k < w.heap.size) w w11 l l) := O.out.below S10.out hb11
              clear hb11 CS S10 S4 HA HGG HV
              go_wp2_with fail
              go_roundw
              case rel => exact ⟨k + 1, by omega, by omega, by go_num, _, S11.out⟩
              case measure => simp [intOf]; omega
    · have a1' : ¬ k < ll ∨ (k < ll ∧ ¬ k < 100) := by omega
      clear a1
      rcases a1' with a1 | ⟨a1, a2⟩
      all_goals (
        go_wp2_with fail
        refine (works_any _).mono ?_
        rintro e w5 ⟨rfl, hb5⟩
        have BL : Hid (Below w.heap.size w w5) := (O.out.kpt S3.out).toBelow.trans (hb5.mono (O.out.kpt S3.out).size)
        clear hb5
        go_wp2
        go_ret
        exact ⟨rfl, BL.out⟩)
set_option maxRecDepth 100000 in
set_option maxHeartbeats 4000000 in
theorem plays_none (w : World) (n0 : Int) (hn : n0 < 1 ∨ 64 < n0) (al : Option Addr) (ll cl : Nat) (hl : ll ≤ maxLen) (D : Dos w al ll) :
    Calls Try.prog 3 #[.int .i64 n0, .slice al ll cl] w fun e w' => e = .returned (.bool true) ∧ Below w.heap.size w w' := by
  unfold maxLen at hl
  obtain ⟨i0, hi0, hz0, hz1, hz2⟩ := info_parts Try.infoT
  have HD : Hid (Dos w al ll) := D
  clear D
  have C1 : Hid (Calls _ _ _ _ _) := New_no n0 hn w
  have C2 : Hid (∀ W, Calls Try.prog 9 #[.int .i64 n0] W fun e w' => e = .returned (.tuple #[.pointer none, .int .i64 2]) ∧ w' = W) := fun W => RNew_no n0 hn W
  clear hn
  have S0 : Hid (Non (fun k => k < w.heap.size) w w [] []) := ⟨⟨rfl, rfl, rfl, Nat.le_refl _, fun _ _ => rfl, fun _ h => h⟩, rfl, rfl⟩
  have O : Hid (Orc noA none none Non) := orc_no
  go_enter Try.func3, Try.ntmps3
  go_wp2_with fail
  refine C1.out.mono ?_
  rintro e w1 ⟨rfl, e1⟩
  have e2 := e1.symm
  subst e2
  clear e1
  go_wp2_with fail
  refine (C2.out _).mono ?_
  rintro e w1 ⟨rfl, e1⟩
  have e2 := e1.symm
  subst e2
  clear e1
  clear C1 C2
  go_wp2_with fail
  go_loopw [9] (fun i wr => ∃ k : Nat, k ≤ ll ∧ k ≤ 100 ∧ i = .int .i64 k ∧ ∃ l, Non (fun k => k < w.heap.size) w wr l l) (fun i _ => ll - (intOf i).toNat)
  case atStart => exact ⟨0, by omega, by omega, rfl, _, S0.out⟩
  case round =>
    clear S0
    obtain ⟨k, hk, hk2, rfl, l0, hS⟩ := hrel
    have S3 : Hid (Non (fun k => k < w.heap.size) w wr l0 l0) := hS
    clear hS
    by_cases a1 : k < ll ∧ k < 100
    · obtain ⟨a1, a2⟩ := a1
      obtain ⟨b, off, Kd, x, e1, hb, hd⟩ := HD.out k a1
      subst e1
      have hd2 := hd.of_eq ((O.out.kpt S3.out).block b hb)
      have d0 := hd2.k
      have d1 : wr.cell? ⟨b, off + k * 7 + 1, none⟩ = some (.int .i64 x.a) := hd2.six 0 _ rfl
      have d2 : wr.cell? ⟨b, off + k * 7 + 2, none⟩ = some (.int .i64 x.p) := hd2.six 1 _ rfl
      have d3 : wr.cell? ⟨b, off + k * 7 + 3, none⟩ = some (.int .i64 x.f) := hd2.six 2 _ rfl
      have d4 : wr.cell? ⟨b, off + k * 7 + 4, none⟩ = some (.bool x.r) := hd2.six 3 _ rfl
      have d5 : wr.cell? ⟨b, off + k * 7 + 5, none⟩ = some (.bool x.w) := hd2.six 4 _ rfl
      have d6 : wr.cell? ⟨b, off + k * 7 + 6, none⟩ = some (.bool x.d) := hd2.six 5 _ rfl
      have CD : Hid (Calls _ _ _ _ _) := done_any O.out S3.out Kd x hd.k0 hd.k1
      clear hd2 hd
      go_wp2_with fail
      refine CD.out.mono ?_
      rintro e w4 ⟨rfl, l, hS⟩
      have S4 : Hid (Non (fun k => k < w.heap.size) w w4 l l) := hS
      obtain ⟨hl64, _⟩ := O.out.len hS
      clear hS S3 CD d0 d1 d2 d3 d4 d5 d6
      go_wp2_with fail
      refine (O.out.all1 S4.out).mono ?_
      rintro e w5 ⟨va, rfl, oa, hb5⟩
      have A5 : Hid (Own w4.heap.size w5 va l) := oa
      have B5 : Hid (Below w4.heap.size w4 w5) := hb5
      have hs5 := hb5.size
      clear oa hb5
      go_wp2_with fail
      refine (O.out.all1 (O.out.below S4.out B5.out)).mono ?_
      rintro e w6 ⟨vb, rfl, ob, hb6⟩
      have V6 : Hid (Own w5.heap.size w6 vb l) := ob
      have A6 : Hid (Own w4.heap.size w6 va l) := A5.out.below hb6
      have B6 : Hid (Below w4.heap.size w4 w6) := B5.out.trans (hb6.mono hs5)
      have hs6 := hb6.size
      clear ob hb6
      go_wp2_with fail
      refine (O.out.all2 (O.out.below S4.out B6.out)).mono ?_
      rintro e w7 ⟨vc, rfl, oc, hb7⟩
      have V7 : Hid (Own w5.heap.size w7 vb l) := V6.out.below hb7
      have A7 : Hid (Own w4.heap.size w7 va l) := A6.out.below hb7
      have B7 : Hid (Below w4.heap.size w4 w7) := B6.out.trans (hb7.mono (by omega))
      have hs7 := hb7.size
      have CS : Hid (Calls _ _ _ _ _) := same_any A7.out oc (by omega)
      clear oc hb7
      go_wp2_with fail
      refine CS.out.mono ?_
      rintro e w8 ⟨rfl, hb8⟩
      have V8 : Hid (Own w5.heap.size w8 vb l) := V7.out.below hb8
      have A8 : Hid (Own w4.heap.size w8 va l) := A7.out.below hb8
      have B8 : Hid (Below w4.heap.size w4 w8) := B7.out.trans (hb8.mono (by omega))
      have hs8 := hb8.size
      have HGA : Hid (∀ g, va.ownBlock = some g → g < w5.heap.size) := fun g hg => (A5.out.lt g hg).2
      have HGB : Hid (∀ g, vb.ownBlock = some g → w5.heap.size ≤ g ∧ g < w6.heap.size) := fun g hg => V6.out.lt g hg
      obtain ⟨va0, vac, hva⟩ := A8.out.len
      subst hva
      clear hb8 CS A5 A6 A7 V6 V7 B5 B6 B7
      go_wp2_with fail
      go_loopw [12] (fun i wx => ∃ j : Nat, j ≤ l.length ∧ i = .int .i64 j ∧ ∃ L : List Tr, L.length = l.length ∧ Own w4.heap.size wx (.slice va0 l.length vac) L ∧ Own w5.heap.size wx vb l ∧ Below w4.heap.size w4 wx ∧ w6.heap.size ≤ wx.heap.size) (fun i _ => l.length - (intOf i).toNat)
      case atStart => exact ⟨0, by omega, rfl, l, rfl, A8.out, V8.out, B8.out, by omega⟩
      case round =>
        clear A8 V8 B8 hs8 hs7
        obtain ⟨j, hj, rfl, L, hL, oa, ob, hbx, hsx⟩ := hrel
        have HA : Hid (Own w4.heap.size wr (.slice va0 l.length vac) L) := oa
        have HV : Hid (Own w5.heap.size wr vb l) := ob
        have HB : Hid (Below w4.heap.size w4 wr) := hbx
        have hs4 := hbx.size
        clear oa ob hbx
        by_cases hjl : j < l.length
        · obtain ⟨ga, capa, e1, st⟩ := HA.out.store (j := j) (by omega) y9
          obtain ⟨ga', capa', e2, ⟨d0, d1, d2, d3, d4, d5⟩, hfz, hgl, hc1, hc2⟩ := HA.out.cell (List.getElem?_eq_getElem (by omega : j < L.length))
          rw [hL] at e1
          cases e1
          rw [hL] at e2
          cases e2
          have f0 := hfz (j * 6)
          have f1 := hfz (j * 6 + 1)
          have f2 := hfz (j * 6 + 2)
          have f3 := hfz (j * 6 + 3)
          have f4 := hfz (j * 6 + 4)
          have f5 := hfz (j * 6 + 5)
          unfold y9 at st
          have hga := HGA.out ga rfl
          have ST : Hid (Own w4.heap.size _ _ _) := st
          have hB4 : w4.heap.size ≤ ga := (HA.out.lt ga rfl).1
          have HG6 : Hid (wr.grownBy _ (some ga)) := grown6 wr ga (j * 6) (j * 6 + 1) (j * 6 + 2) (j * 6 + 3) (j * 6 + 4) (j * 6 + 5) (.int .i64 0) (.int .i64 (-9)) (.int .i64 0) (.bool false) (.bool false) (.bool false)
          have HV2 : Hid (Own w5.heap.size _ vb l) := HV.out.of_eq (fun g hg => HG6.out.block g (HV.out.lt g hg).2 (some_ne (by have := (HV.out.lt g hg).1; omega)))
          have HB2 : Hid (Below w4.heap.size w4 _) := HB.out.grown HG6.out HB.out.size (fun i hi => by injection hi with hi; omega)
          have hsz6 := HG6.out.size
          clear st hfz
          unfold maxLen at hc2
          go_wp2_with fail
          go_roundw
          case rel => exact ⟨j + 1, by omega, by go_num, _, by rw [List.length_set]; exact hL, ST.out, HV2.out, HB2.out, Nat.le_trans hsx hsz6⟩
          case measure => simp [intOf]; omega
        · obtain rfl : j = l.length := by omega
          obtain ⟨w9, hw9⟩ : ∃ w9, w9 = wr := ⟨_, rfl⟩
          go_wp2_with fail
          go_loopw [10, 13] (fun v i wx => ∃ j : Nat, j ≤ 70 ∧ i = .int .i64 j ∧ ∃ L : List Tr, L.length ≤ 64 + j ∧ Own w4.heap.size wx v L ∧ (∀ g, v.ownBlock = some g → g < w5.heap.size ∨ w6.heap.size ≤ g) ∧ Own w5.heap.size wx vb l ∧ Below w4.heap.size w4 wx ∧ w6.heap.size ≤ wx.heap.size) (fun _ i _ => 70 - (intOf i).toNat)
          case atStart => exact ⟨0, by omega, rfl, L, by omega, HA.out, fun g hg => Or.inl (HGA.out g hg), HV.out, HB.out, hsx⟩
          case round =>
            clear HA HV HB hs4 hsx hw9
            obtain ⟨i, hi, rfl, L, hL, oa, hga, ob, hbx, hsx⟩ := hrel
            have HA : Hid (wr.ownsRow w4.heap.size 32 6 u10 L.length (tv L)) := oa
            have HGG : Hid (∀ g, u10.ownBlock = some g → g < w5.heap.size ∨ w6.heap.size ≤ g) := hga
            have HV : Hid (Own w5.heap.size wr vb l) := ob
            have HB : Hid (Below w4.heap.size w4 wr) := hbx
            have hs4 := hbx.size
            clear oa ob hbx hga
            by_cases hi7 : i < 70
            · have HN : Hid (∀ j u, (tc y8)[j]? = some u → (wr.alloc (.cells #[.int .i64 0, .int .i64 (-8), .int .i64 0, .bool false, .bool false, .bool false] 32)).cell? ((⟨wr.heap.size, 0, none⟩ : Addr).add j) = some u) := box_cells wr y8 32
              have HT : Hid (∀ v ∈ tc y8, v.oneCell' = true) := tc_one y8
              have HL2 : Hid (Own w5.heap.size (wr.alloc (.cells #[.int .i64 0, .int .i64 (-8), .int .i64 0, .bool false, .bool false, .bool false] 32)) vb l) := HV.out.below (below_new _ _)
              go_wp2_with (at_builtin; refine wpList_append_lies _ rfl (.tmp 75) (.tmp 77) 35 rfl w4.heap.size 32 i0 _ 6 32 Try.underlying35 hi0 hz0 hz1 hz2 rfl (by decide) _ L.length (tv L) rfl (World.ownsRow.alloc HA.out _) ⟨wr.heap.size, 0, none⟩ 1 1 (tc y8) rfl rfl HN.out HT.out (by omega) (by unfold maxLen; omega) (by omega) (by simp; omega) (wr.heap.size + 1) (by simp) ?_; intro g3 cap3 w3 o3 gr3 at3 lt3)
              go_roundw
              case rel =>
                refine ⟨i + 1, by omega, by go_num, L ++ [y8], by simp; omega, ?_, ?_, ?_, (HB.out.alloc hs4 _).grown gr3 (by simp; omega) (fun k hk => (HA.out.lt k hk).1), ?_⟩
                · unfold Own
                  rw [tv_app, List.length_append, show tv [y8] = tc y8 by simp [tv]]
                  exact o3
                · intro g hg
                  cases hg
                  rcases at3 with q | q
                  · exact HGG.out _ q
                  · exact Or.inr (by show w6.heap.size ≤ g3; omega)
                · refine HL2.out.of_eq (fun g hg => gr3.block g (HL2.out.lt g hg).2 (fun e => ?_))
                  have h1 := HGB.out g hg
                  have h2 := HGG.out g e.symm
                  omega
                · have := gr3.size
                  simp at this
                  omega
              case measure => simp [intOf]; omega
            · obtain rfl : i = 70 := by omega
              have S9 : Hid (Non (fun k => k < w.heap.size) w wr l l) := O.out.below S4.out HB.out
              clear HB
              go_wp2_with fail
              refine (O.out.all2 S9.out).mono ?_
              rintro e w10 ⟨vd, rfl, od, hb10⟩
              have S10 : Hid (Non (fun k => k < w.heap.size) w w10 l l) := O.out.below S9.out hb10
              have CS : Hid (Calls _ _ _ _ _) := same_any (HV.out.below hb10) od (by omega)
              clear od hb10 S9
              go_wp2_with fail
              refine CS.out.mono ?_
              rintro e w11 ⟨rfl, hb11⟩
              have S11 : Hid (Non (fun k => k < w.heap.size) w w11 l l) := O.out.below S10.out hb11
              clear hb11 CS S10 S4 HA HGG HV
              go_wp2_with fail
              go_roundw
              case rel => exact ⟨k + 1, by omega, by omega, by go_num, _, S11.out⟩
              case measure => simp [intOf]; omega
    · have a1' : ¬ k < ll ∨ (k < ll ∧ ¬ k < 100) := by omega
      clear a1
      rcases a1' with a1 | ⟨a1, a2⟩
      all_goals (
        go_wp2_with fail
        refine (works_any _).mono ?_
        rintro e w5 ⟨rfl, hb5⟩
        have BL : Hid (Below w.heap.size w w5) := (O.out.kpt S3.out).toBelow.trans (hb5.mono (O.out.kpt S3.out).size)
        clear hb5
        go_wp2
        go_ret
        exact ⟨rfl, BL.out⟩)
theorem plays_walk (w : World) (n0 : Int) (hn0 : -9223372036854775808 ≤ n0) (hn1 : n0 < 9223372036854775808) (al : Option Addr) (ll cl : Nat) (hl : ll ≤ maxLen) (D : Dos w al ll) :
    Calls Try.prog 3 #[.int .i64 n0, .slice al ll cl] w fun e w' => e = .returned (.bool true) ∧ Below w.heap.size w w' := by
  by_cases h : n0 < 1 ∨ 64 < n0
  · exact plays_none w n0 h al ll cl hl D
  · obtain ⟨n, rfl⟩ := Int.eq_ofNat_of_zero_le (by omega : 0 ≤ n0)
    exact plays_there w n (by omega) (by omega) al ll cl hl D
end Go.Proofs.Ytkgmdalekakgpaa
