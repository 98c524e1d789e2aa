/- The statement TlbStays's own function: there. -/
import Derived.Test.YtkgmdalekakgpaaKd
import Derived.Deep.DeepCutAuto
import Derived.Deep.CutBlock
import Derived.Deep.CutRange
import Derived.Deep.RegionWith
namespace Go.Proofs.Ytkgmdalekakgpaa
open Go.ChangeShapes Go.WideShapes Go.ChangeAt Go.RowKit
set_option linter.unusedVariables false

theorem Si.pk {n : Nat} {l : List Tr} {K : List Kx} (h : Si n l K.reverse) (hok : ∀ y ∈ K, okA y.x.a = true ∧ okP y.x.p = true) {k : Nat} {y : Kx} (hy : K[k]? = some y) :
    (pk y.x.a y.x.p l = (y.x, true, 0) ∧ y.gone = false) ∨ (pk y.x.a y.x.p l = (z0, false, 0) ∧ y.gone = true) ∨ (pk y.x.a y.x.p l = (z0, false, 0) ∧ y.gone = false ∧ (k : Int) < (K.length : Int) - n) := by
  have hm := List.mem_of_getElem? hy
  obtain ⟨o1, o2⟩ := hok y hm
  cases hl : look y.x.a y.x.p l with
  | some z =>
    obtain ⟨g, rfl⟩ := h.is (List.mem_reverse.2 hm) hl
    exact Or.inl ⟨by simp [Proofs.Ytkgmdalekakgpaa.pk, o1, o2, hl], g⟩
  | none =>
    have e : Proofs.Ytkgmdalekakgpaa.pk y.x.a y.x.p l = (z0, false, 0) := by simp [Proofs.Ytkgmdalekakgpaa.pk, o1, o2, hl]
    cases hg : y.gone with
    | true => exact Or.inr (Or.inl ⟨e, rfl⟩)
    | false =>
      refine Or.inr (Or.inr ⟨e, rfl, ?_⟩)
      have hlt := (List.getElem?_eq_some_iff.1 hy).1
      by_cases q : K.length - 1 - k < n
      · have hi : K.reverse[K.length - 1 - k]? = some y := by
          rw [List.getElem?_reverse (by omega), ← hy]
          congr 1
          omega
        obtain ⟨z, hz⟩ := h.there hi q hg
        rw [hl] at hz
        cases hz
      · omega
theorem drew_trans {w w2 : World} (h : Below w.drew.heap.size w.drew w2) : Below w.heap.size w w2 := (below_drew w w.heap.size).trans h
theorem newdrew_trans {w w2 : World} {o : Obj} (h : Below (w.alloc o).drew.heap.size (w.alloc o).drew w2) : Below w.heap.size w w2 := ((below_new w o).drew).trans (h.mono (by show _ ≤ (w.alloc o).heap.size; simp))
theorem newdrew_blk {w w2 : World} (h : Below (w.alloc (.cells #[.int .i64 0, .int .i64 0, .int .i64 0, .bool false, .bool false, .bool false] 32)).drew.heap.size (w.alloc (.cells #[.int .i64 0, .int .i64 0, .int .i64 0, .bool false, .bool false, .bool false] 32)).drew w2) : Blk w2 w.heap.size 32 [.int .i64 0, .int .i64 0, .int .i64 0, .bool false, .bool false, .bool false] := by
  have hb : Blk (w.alloc (.cells #[.int .i64 0, .int .i64 0, .int .i64 0, .bool false, .bool false, .bool false] 32)).drew w.heap.size 32 [.int .i64 0, .int .i64 0, .int .i64 0, .bool false, .bool false, .bool false] := (blk_new w [.int .i64 0, .int .i64 0, .int .i64 0, .bool false, .bool false, .bool false] 32).drew
  exact hb.below h
theorem Blk.six_first {w : World} {g : Nat} {L : List Value} (h : Blk w g 32 L) (h6 : 6 ≤ L.length) (x : Tr) :
    Six ((((((w.setCell ⟨g, 0, none⟩ (.int .i64 x.a)).setCell ⟨g, 1, none⟩ (.int .i64 x.p)).setCell ⟨g, 2, none⟩ (.int .i64 x.f)).setCell ⟨g, 3, none⟩ (.bool x.r)).setCell ⟨g, 4, none⟩ (.bool x.w)).setCell ⟨g, 5, none⟩ (.bool x.d)) g 0 x :=
  Six.of (fun j v hv => by
    rw [Nat.zero_add, (h.first h6 x).cell j, List.getElem?_append_left (List.getElem?_eq_some_iff.1 hv).1]
    exact hv)
theorem newdrew_six {w w2 : World} (h : Below (w.alloc (.cells #[.int .i64 0, .int .i64 0, .int .i64 0, .bool false, .bool false, .bool false] 32)).drew.heap.size (w.alloc (.cells #[.int .i64 0, .int .i64 0, .int .i64 0, .bool false, .bool false, .bool false] 32)).drew w2) : Sx w2 w.heap.size z0 ∧ ∀ j, w2.frozen? ⟨w.heap.size, j, none⟩ = false := by
  have hlt : w.heap.size < (w.alloc (.cells #[.int .i64 0, .int .i64 0, .int .i64 0, .bool false, .bool false, .bool false] 32)).drew.heap.size := by show _ < (w.alloc _).heap.size; simp
  exact ⟨((z6_new w).of_eq (w' := (w.alloc (.cells #[.int .i64 0, .int .i64 0, .int .i64 0, .bool false, .bool false, .bool false] 32)).drew) rfl).below hlt h |>.sx, fun j => (h.frozen (p := ⟨w.heap.size, j, none⟩) hlt).trans (fz_new w _ _ j)⟩
set_option maxRecDepth 100000 in
set_option maxHeartbeats 4000000 in
theorem there_any {P : Nat → Prop} {B : Nat} {w0 w : World} {p n : Nat} {l : List Tr} {v : Value} {K : List Kx} (h : On P w0 w p n l) (hk : KOwn B w v K) (hl : K.length ≤ 1000) (hs : Si n l K.reverse) (hok : ∀ y ∈ K, okA y.x.a = true ∧ okP y.x.p = true) :
    Calls Try.prog 21 #[.pointer (some ⟨p, 0, none⟩), v, .int .i64 n] w fun e w' => e = .returned (.bool true) ∧ Below w.heap.size w w' := by
  obtain ⟨ao, cap, hv⟩ := hk.len
  subst hv
  have HK : Hid (KOwn B w (.slice ao K.length cap) K) := hk
  have HO : Hid (On P w0 w p n l) := h
  have HS : Hid (∀ (k : Nat) (y : Kx), K[k]? = some y → (pk y.x.a y.x.p l = (y.x, true, 0) ∧ y.gone = false) ∨ (pk y.x.a y.x.p l = (z0, false, 0) ∧ y.gone = true) ∨ (pk y.x.a y.x.p l = (z0, false, 0) ∧ y.gone = false ∧ (k : Int) < (K.length : Int) - n)) := fun k y hy => hs.pk hok hy
  obtain ⟨hll, hn, hn1, huq⟩ := h.len
  have HU : Hid (Uq l) := huq
  clear hk h hs hok huq
  go_enter Try.func21, Try.ntmps21
  go_upto_block 0 with fail
  go_cut [] (fun wc => Below w.heap.size w wc)
  case first =>
    go_wp2_with fail
    go_loopw [7] (fun i wr => ∃ j : Nat, j ≤ K.length ∧ i = .int .i64 j ∧ Below w.heap.size w wr) (fun i _ => K.length - (intOf i).toNat)
    case atStart => exact ⟨0, by omega, rfl, Below.refl _ _⟩
    case round =>
      obtain ⟨j, hj, rfl, hb⟩ := hrel
      have HB : Hid (Below w.heap.size w wr) := hb
      have hsz := hb.size
      by_cases hlt : j < K.length
      · have hg : K[j]? = some K[j] := List.getElem?_eq_getElem hlt
        obtain ⟨gr, cap', e1, hsv, hgl, hc1, hc2⟩ := (HK.out.below hb).cell hg
        have hcase := HS.out j _ hg
        cases e1
        clear hg hb
        generalize K[j] = y at *
        unfold maxLen at hc2
        have HV : Hid (Sev wr gr (j * 7) y) := hsv
        clear hsv
        have O1 : Hid (On P w0 wr p n l) := HO.out.below HB.out
        have SS : Hid (∀ W, Below wr.heap.size wr W → W.cell? ⟨gr, j * 7, none⟩ = some (.int .i64 y.x.a) ∧ W.cell? ⟨gr, j * 7 + 1, none⟩ = some (.int .i64 y.x.p)) := fun W hW => ⟨(HV.out.below hgl hW).six.c0, (HV.out.below hgl hW).six.c1⟩
        obtain ⟨X, is, hX⟩ : ∃ X is, pk y.x.a y.x.p l = (X, is, 0) := by
          rcases hcase with ⟨e, _⟩ | ⟨e, _⟩ | ⟨e, _⟩
          · exact ⟨_, _, e⟩
          · exact ⟨_, _, e⟩
          · exact ⟨_, _, e⟩
        have HC : Hid ((pk y.x.a y.x.p l = (y.x, true, 0) ∧ y.gone = false) ∨ (pk y.x.a y.x.p l = (z0, false, 0) ∧ y.gone = true) ∨ (pk y.x.a y.x.p l = (z0, false, 0) ∧ y.gone = false ∧ (j : Int) < (K.length : Int) - n)) := hcase
        rw [hX] at HC
        have CPK : Hid (∀ W, Below wr.heap.size wr W → Calls Try.prog 24 #[.pointer (some ⟨p, 0, none⟩), .int .i64 y.x.a, .int .i64 y.x.p] W fun e w' => e = .returned (.tuple #[.agg #[.int .i64 X.a, .int .i64 X.p, .int .i64 X.f, .bool X.r, .bool X.w, .bool X.d], .bool is, .int .i64 0]) ∧ Below W.heap.size W w') := fun W hW => (O1.out.below hW).peek_at y.x.a y.x.p X is 0 hX
        clear hcase hX
        have HZ1 : Hid (Six (wr.alloc (.cells #[.int .i64 0, .int .i64 0, .int .i64 0, .bool false, .bool false, .bool false] 32)).drew wr.heap.size 0 z0) := (z6_new wr).of_eq rfl
        have hz1 : wr.heap.size < (wr.alloc (.cells #[.int .i64 0, .int .i64 0, .int .i64 0, .bool false, .bool false, .bool false] 32)).drew.heap.size := by show _ < (wr.alloc _).heap.size; simp
        have HZF : Hid (∀ j, (wr.alloc (.cells #[.int .i64 0, .int .i64 0, .int .i64 0, .bool false, .bool false, .bool false] 32)).drew.frozen? ⟨wr.heap.size, j, none⟩ = false) := fz_new wr _ _
        go_upto_region 4 with fail
        go_cut [8, 9, 10] (fun s8 s9 s10 wc => ∃ bx, s8 = .pointer (some ⟨bx, 0, none⟩) ∧ s9 = .bool is ∧ s10 = .int .i64 0 ∧ Six wc bx 0 X ∧ Below wr.heap.size wr wc)
        case first =>
          have i0 : (0 : Int) ≤ (j : Int) := by omega
          have i1 : (j : Int) < (K.length : Int) := by omega
          obtain ⟨d0, d1⟩ := SS.out wr (Below.refl _ _)
          obtain ⟨e0, e1⟩ := SS.out (wr.alloc (.cells #[.int .i64 0, .int .i64 0, .int .i64 0, .bool false, .bool false, .bool false] 32)) (below_new _ _)
          go_region_with (first | (go_at_call 24; refine (CPK.out _ (by first | (with_reducible exact below_drew _ _) | (with_reducible exact (below_new _ _).drew))).mono ?_; rintro e w2 ⟨rfl, hb2⟩; have b2 : Below wr.heap.size wr w2 := (by first | (with_reducible exact drew_trans hb2) | (with_reducible exact newdrew_trans hb2)); have B2 : Hid (Below wr.heap.size wr w2) := b2; clear b2; (first | (have yy : Sx w2 wr.heap.size z0 ∧ ∀ j, w2.frozen? ⟨wr.heap.size, j, none⟩ = false := (by with_reducible exact newdrew_six hb2); obtain ⟨⟨y0, y1, y2, y3, y4, y5⟩, yf⟩ := yy; have y6 := yf 0; have y7 := yf 1; have y8 := yf 2; have y9 := yf 3; have y10 := yf 4; have y11 := yf 5; clear yf; have BL : Hid (Blk w2 wr.heap.size 32 [.int .i64 0, .int .i64 0, .int .i64 0, .bool false, .bool false, .bool false]) := newdrew_blk hb2) | skip); clear hb2))
          all_goals (
            go_wp2_with fail
            go_meet
            case rel =>
              first
                | exact ⟨_, rfl, rfl, rfl, BL.out.six_first (by decide) X, B2.out.grown (grown6 _ _ _ _ _ _ _ _ _ _ _ _ _ _) B2.out.size (fun k hk => by injection hk with hk; omega)⟩
                | exact ⟨_, rfl, rfl, rfl, six_new w2 X 32, B2.out.alloc B2.out.size _⟩)
        case rest =>
          obtain ⟨bx, rfl, rfl, rfl, hsx, hbl⟩ := hcut
          have HB2 : Hid (Below w.heap.size w wc) := HB.out.trans (hbl.mono hsz)
          obtain ⟨x0, x1, x2, x3, x4, x5⟩ := hsx
          obtain ⟨⟨d0, d1, d2, d3, d4, d5⟩, d6⟩ := HV.out.below hgl hbl
          clear SS CPK HZ1 hz1 HZF O1 HV hbl
          rcases HC.out with ⟨e, hg⟩ | ⟨e, hg⟩ | ⟨e, hg, hlt2⟩
          · injection e with eX e2
            injection e2 with eI _
            subst eX eI
            rw [hg] at d6
            have hq := ne_run y.x.a y.x.p y.x.f y.x.a y.x.p y.x.f y.x.r y.x.w y.x.d y.x.r y.x.w y.x.d
            rw [eqT_self, Bool.not_true] at hq
            clear hg HC
            go_wp2_with fail
            go_quiet (fail)
            clear x0 x1 x2 x3 x4 x5 d0 d1 d2 d3 d4 d5 d6 hq
            have HB3 : Hid (Below w.heap.size w (wc.drewN nq)) := HB2.out.trans (below_drewN _ _ _)
            generalize wc.drewN nq = w4 at *
            go_wp2_with fail
            go_roundw
            case rel => exact ⟨j + 1, by omega, by go_num, HB3.out⟩
            case measure => simp [intOf]; omega
          · injection e with eX e2
            injection e2 with eI _
            subst eX eI
            rw [hg] at d6
            clear hg HC
            go_wp2_with fail
            go_quiet (fail)
            clear x0 x1 x2 x3 x4 x5 d0 d1 d2 d3 d4 d5 d6 
            have HB3 : Hid (Below w.heap.size w (wc.drewN nq)) := HB2.out.trans (below_drewN _ _ _)
            generalize wc.drewN nq = w4 at *
            go_wp2_with fail
            go_roundw
            case rel => exact ⟨j + 1, by omega, by go_num, HB3.out⟩
            case measure => simp [intOf]; omega
          · injection e with eX e2
            injection e2 with eI _
            subst eX eI
            rw [hg] at d6
            clear hg HC
            have q1 : IntKind.i64.wrap ((K.length : Int) - (n : Int)) = (K.length : Int) - (n : Int) := IntWalk.i64_in _ (by omega)
            have q2 : decide ((j : Int) ≥ (K.length : Int) - (n : Int)) = false := by simp; omega
            have q3 : decide ((K.length : Int) - (n : Int) ≤ (j : Int)) = false := by simp; omega
            go_wp2_with fail
            go_quiet (fail)
            clear x0 x1 x2 x3 x4 x5 d0 d1 d2 d3 d4 d5 d6 q1 q2 q3
            have HB3 : Hid (Below w.heap.size w (wc.drewN nq)) := HB2.out.trans (below_drewN _ _ _)
            generalize wc.drewN nq = w4 at *
            go_wp2_with fail
            go_roundw
            case rel => exact ⟨j + 1, by omega, by go_num, HB3.out⟩
            case measure => simp [intOf]; omega
      · obtain rfl : j = K.length := by omega
        clear hb
        go_wp2_with fail
        go_meet
        case rel => exact HB.out
  case rest =>
    have HB : Hid (Below w.heap.size w wc) := hcut
    clear hcut
    go_wp2_with fail
    refine (HO.out.below HB.out).all.mono ?_
    rintro e w2 ⟨va, rfl, oa, hb2⟩
    obtain ⟨aa, ca, hva⟩ := oa.len
    subst hva
    have OA : Hid (Own wc.heap.size w2 (.slice aa l.length ca) l) := oa
    have HB2 : Hid (Below w.heap.size w w2) := HB.out.trans (hb2.mono HB.out.size)
    clear oa hb2 HB HK HS
    go_wp2_with fail
    go_loopw [12] (fun i wr => ∃ j : Nat, j ≤ l.length ∧ i = .int .i64 j ∧ Below w2.heap.size w2 wr) (fun i _ => l.length - (intOf i).toNat)
    case atStart => exact ⟨0, by omega, rfl, Below.refl _ _⟩
    case round =>
      obtain ⟨j, hj, rfl, hb⟩ := hrel
      have R1 : Hid (Below w2.heap.size w2 wr) := hb
      clear hb
      by_cases hlt : j < l.length
      · go_wp2_with fail
        generalize wr = wq at *
        go_loopw [13] (fun i wr => ∃ k : Nat, k ≤ j ∧ i = .int .i64 k ∧ Below w2.heap.size w2 wr) (fun i _ => j - (intOf i).toNat)
        case atStart => exact ⟨0, by omega, rfl, R1.out⟩
        case round =>
          obtain ⟨k, hk, rfl, hb⟩ := hrel
          have R2 : Hid (Below w2.heap.size w2 wr) := hb
          by_cases hkl : k < j
          · have g1 : l[j]? = some l[j] := List.getElem?_eq_getElem hlt
            have g2 : l[k]? = some l[k] := List.getElem?_eq_getElem (by omega)
            obtain ⟨ga, ca', e1, h6, _, _, p1, p2⟩ := (OA.out.below hb).cell g1
            obtain ⟨gb, cb', e2, k6, _⟩ := (OA.out.below hb).cell g2
            cases e1
            cases e2
            have hne : ¬ (l[j].a = l[k].a ∧ l[j].p = l[k].p) := fun q => by
              have hh := (List.pairwise_iff_getElem.1 HU.out) k j (by omega) hlt hkl
              simp [Proofs.Ytkgmdalekakgpaa.hk, q.1, q.2] at hh
            clear g1 g2 hb
            generalize l[j] = y at *
            generalize l[k]'(by omega) = z at *
            obtain ⟨d0, d1, d2, d3, d4, d5⟩ := h6
            obtain ⟨c0, c1, c2, c3, c4, c5⟩ := k6
            unfold maxLen at p2
            have q : (y.a == z.a) = false ∨ ((y.a == z.a) = true ∧ (y.p == z.p) = false) := by
              by_cases e : y.a = z.a
              · right
                exact ⟨by simpa using e, by simpa using fun e2 => hne ⟨e, e2⟩⟩
              · left
                simpa using e
            clear hne
            have i0 : (0 : Int) ≤ (j : Int) := by omega
            have i1 : (j : Int) < (l.length : Int) := by omega
            have i2 : (0 : Int) ≤ (k : Int) := by omega
            have i3 : (k : Int) < (l.length : Int) := by omega
            rcases q with q1 | ⟨q1, q2⟩
            all_goals (
              go_wp2_with fail
              go_quiet (fail)
              clear d0 d1 d2 d3 d4 d5 c0 c1 c2 c3 c4 c5
              have R3 : Hid (Below w2.heap.size w2 (wr.drewN nq)) := R2.out.trans (below_drewN _ _ _)
              generalize wr.drewN nq = w4 at *
              go_wp2_with fail
              go_roundw
              case rel => exact ⟨k + 1, by omega, by go_num, R3.out⟩
              case measure => simp [intOf]; omega)
          · clear hb
            go_wp2_with fail
            go_roundw
            case rel => exact ⟨j + 1, by omega, by go_num, R2.out⟩
            case measure => simp [intOf]; omega
      · go_wp2
        go_ret
        exact ⟨rfl, HB2.out.trans (R1.out.mono HB2.out.size)⟩
end Go.Proofs.Ytkgmdalekakgpaa
