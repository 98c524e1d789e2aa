/- MmuKnown walked: translations tell what the tables tell; no condition. -/
import Derived.Test.YtgljdbabagdhlaaGreatVHnd
import Derived.Test.YtgljdbabagdhlaaGreatVmi
import Derived.Deep.MidRow
namespace Go.Proofs.YtgljdbabagdhlaaGreat.Pg
open P E Go.ChangeShapes Go.WideShapes Go.ChangeAt Go.RowKit
set_option linter.unusedVariables false
set_option linter.unusedSimpArgs false
set_option maxRecDepth 100000
theorem Tryz.sizeE : (Tryz.prog.info? 32).map (·.size) = some 7 := by kernel_rfl
theorem Tryz.sizeX : (Tryz.prog.info? 40).map (·.size) = some 6 := by kernel_rfl
theorem wpList_load_wg {P : Program} {w : World} {ops : Array Oper} {rest : List Oper} {o : Oper} {a : Act} {Q : Exit → Act → World → Prop} (hgd : o.guard = none) (t : TypeId) (x : Operand)
    (ho : o.op = .load t x) (u v : Value) (hx : a.eval x = u) (hrun : (Instr.loadAt t u).run P w = .ok v w) (h : wpList P ops Q rest (a.put o.dst v) w) : wpList P ops Q (o :: rest) a w :=
  wpList_load_wm (by simp [Region.wanted, hgd]) t x ho u v hx hrun h
theorem five {ep xs er eu : Bool} {ea y : Int} {T : Prop} (h : alE ⟨ep, er, eu, ea⟩ xs = y) (k : y = 0 → T) : (ep = false ∧ y = 1) ∨ (ep = true ∧ xs = true ∧ eu = true ∧ y = 0 ∧ T) ∨ (ep = true ∧ xs = true ∧ eu = false ∧ y = 3) ∨ (ep = true ∧ xs = false ∧ er = true ∧ y = 0 ∧ T) ∨ (ep = true ∧ xs = false ∧ er = false ∧ y = 3) := by
  subst h
  cases ep with
  | false => exact Or.inl ⟨rfl, rfl⟩
  | true =>
    cases xs with
    | true =>
      cases eu with
      | true => exact Or.inr (Or.inl ⟨rfl, rfl, rfl, rfl, k rfl⟩)
      | false => exact Or.inr (Or.inr (Or.inl ⟨rfl, rfl, rfl, rfl⟩))
    | false =>
      cases er with
      | true => exact Or.inr (Or.inr (Or.inr (Or.inl ⟨rfl, rfl, rfl, rfl, k rfl⟩)))
      | false => exact Or.inr (Or.inr (Or.inr (Or.inr ⟨rfl, rfl, rfl, rfl⟩)))
def x0L : List Value := [.int .i64 0, .int .i64 0, .int .i64 0, .bool false, .bool false, .int .u64 0]
set_option maxHeartbeats 4000000 in
theorem known_any {w : World} {ao : Option Addr} {l cl : Nat} (hl : l ≤ maxLen) (ha : Al w ao l) :
    Calls Tryz.prog 5 #[.slice ao l cl] w fun e w' => e = .returned (.bool true) ∧ Below w.heap.size w w' := by
  have HA : Hid (Al w ao l) := ha
  unfold maxLen at hl
  clear ha
  go_enter Tryz.func5, Tryz.ntmps5
  go_wp2_with fail
  refine (over16_any w).mono ?_
  rintro e W ⟨c, t, p, n, S, m, rfl, O⟩
  have HC0 : Hid (Cq w W t c p S m ∧ Iv (fun r => m r ≠ none) S (fun _ => 0) ∧ S.1.l = []) := ⟨O.cq, O.iv.1, O.iv.2.2⟩
  clear O
  go_wp2_with fail
  refine (awake16_any _).mono ?_
  rintro e W1 ⟨rfl, b1⟩
  obtain ⟨Q0, hq0, M0, B0, l0⟩ := (Mq.start (HC0.out.1.below b1).q).box 55 nwL0
  have M0' : Mq (fun k => k < w.heap.size) Q0 w (W1.alloc (.cells nwL0.toArray 55)) t c p (hwOf us) (par us 0) S m := ⟨M0.q, M0.zq, fun k hk => hk, by
    have k1 := Ky.of_below (HC0.out.1.below b1).be (fun k hk => hk)
    exact k1.trans M0.ky⟩
  have B0' : Bb Q0 w (W1.alloc (.cells nwL0.toArray 55)) W1.heap.size 55 nwL0 := ⟨B0.bk, B0.qb, (HC0.out.1.below b1).be.size⟩
  have HK0 : Hid (Kn w (W1.alloc (.cells nwL0.toArray 55)) t c p W1.heap.size m Q0 S (fun _ => 0) (fun _ => ne0) nwL0) := ⟨M0', B0', HC0.out.2.1, by rw [HC0.out.2.2]; exact fun x hx => absurd hx (List.not_mem_nil), wn0, nw0, HC0.out.1.hN⟩
  obtain ⟨W2, hW2⟩ : ∃ W2, W1.alloc (.cells nwL0.toArray 55) = W2 := ⟨_, rfl⟩
  rw [hW2] at HK0
  simp only [nwL0] at hW2
  clear b1 HC0 M0 B0 hq0 M0' B0' l0
  go_upto_region 5 with fail
  try rw [hW2]
  clear hW2
  generalize W1.heap.size = g at *
  go_wp2_with fail
  go_loopw [8] (fun i wr => ∃ (k : Nat) (Q : Nat → Prop) (S : E.Sc × Us) (v : Nat → Int) (e : Nat → Ne) (L : List Value), k ≤ l ∧ k ≤ 150 ∧ i = .int .i64 k ∧ Kn w wr t c p g m Q S v e L) (fun i _ => l - (D.iv i).toNat)
  case atStart => exact ⟨0, _, _, _, _, _, by omega, by omega, rfl, HK0.out⟩
  case round =>
    clear HK0
    obtain ⟨k, Q, S1, v, en, L, hk, hk150, rfl, hK⟩ := hrel
    have HK : Hid (Kn w wr t c p g m Q S1 v en L) := hK
    clear hK
    by_cases hlt : k < l ∧ k < 150
    case' pos =>
      obtain ⟨hlt, hk1⟩ := hlt
      obtain ⟨b, off, x, rfl, hb, hcell, hx⟩ := (HA.out.below HK.out.M.be) k hlt
      obtain ⟨xp, xo, xz, xt, xs, xv⟩ := x
      obtain ⟨AX, HAX⟩ : ∃ AX : Array Value, Hid (AX = #[.int .i64 xp, .int .i64 xo, .int .i64 xz, .bool xt, .bool xs, .int .u64 xv]) := ⟨_, rfl⟩
      have hld : (Instr.loadAt 40 (.pointer (some ⟨b, off + k * 6, none⟩))).run Tryz.prog wr = .ok (.agg AX) wr := by
        have := run_loadAt_mid wr b (off + k * 6) 40 (Ac.ce ⟨xp, xo, xz, xt, xs, xv⟩) _ (fun i u hu => hcell i u hu) Tryz.underlying40 rfl Tryz.sizeX
        rw [HAX.out]
        exact this
      obtain ⟨Q1, hq1, M1, BX, l1⟩ := HK.out.M.box 40 x0L
      obtain ⟨tx, M2, BX2, o2⟩ := M1.set BX AX (by rw [HAX.out]; rfl)
      have hgl : g < wr.heap.size := HK.out.B.bk.lt
      have BG2 := o2 _ _ _ (by omega) ((HK.out.B.below l1).wide hq1)
      have HTX : Hid _ := tx
      have BX2 := BX2.congr (show AX.toList = [.int .i64 xp, .int .i64 xo, .int .i64 xz, .bool xt, .bool xs, .int .u64 xv] by rw [HAX.out])
      have HK2 : Hid (Kn w ((wr.alloc (.cells x0L.toArray 40)).setCells wr.heap.size 0 AX.toList) t c p g m Q1 S1 v en L) := ⟨M2, BG2, HK.out.I, HK.out.T, HK.out.W, HK.out.N, HK.out.hN⟩
      have HX2 : Hid (Bb Q1 w ((wr.alloc (.cells x0L.toArray 40)).setCells wr.heap.size 0 AX.toList) wr.heap.size 40 [.int .i64 xp, .int .i64 xo, .int .i64 xz, .bool xt, .bool xs, .int .u64 xv]) := BX2
      simp only [x0L] at HTX HK2 HX2
      have hxp := hx.p0; have hxp' := hx.p1; have hxo := hx.o0; have hxo' := hx.o1; have hv0 := hx.v0; have hv1 := hx.v1
      simp only at hxp hxp' hxo hxo' hv0 hv1
      have hd1 : decide ((k : Int) < 150) = true := by simp; omega
      have hd2 : decide ((k : Int) < (l : Int)) = true := by simp; omega
      have hi1 : (0 : Int) ≤ (k : Int) := by omega
      have hi2 : (k : Int) < (l : Int) := by omega
      clear hcell hx M1 BX l1 M2 BX2 o2 BG2 tx hq1 HK
      go_upto_region 9 with (first
        | (refine wpList_load_wg rfl 40 (.tmp 41) rfl (.pointer (some ⟨b, off + k * 6, none⟩)) (.agg AX) rfl hld ?_)
        | (refine wpList_store_mid rfl 40 (.tmp 9) (.tmp 42) rfl wr.heap.size 0 AX rfl rfl HTX.out (by rw [HAX.out]; exact Tryz.sizeX) (by rw [HAX.out]; simp [Value.oneCell']) ?_))
      clear hld HTX hd1 hd2 hi1 hi2
      generalize hw2 : (wr.alloc (.cells #[.int .i64 0, .int .i64 0, .int .i64 0, .bool false, .bool false, .int .u64 0] 40)).setCells wr.heap.size 0 AX.toList = w2 at HK2 HX2 ⊢
      clear hw2
      generalize hgx : wr.heap.size = gx at hgl HX2 ⊢
      clear hgx
      obtain ⟨pg, hpg⟩ : ∃ pg : Nat, xp % 8 = pg := ⟨(xp % 8).toNat, by omega⟩
      have hp8 : pg < 8 := by omega
      have CW1 : Hid (∀ W, Calls Tryz.prog 8 #[.int .i64 xp, .int .i64 8] W fun e w' => e = .returned (.int .i64 (pg : Nat)) ∧ w' = W) := fun W => by
        have := Within_any xp 8 (by decide) (by decide) hxp hxp' W
        rw [hpg] at this
        exact this
      obtain ⟨pe, hpe⟩ : ∃ pe : Nat, xo % 3 = pe := ⟨(xo % 3).toNat, by omega⟩
      have hpe3 : pe < 3 := by omega
      have CW2 : Hid (∀ W, Calls Tryz.prog 8 #[.int .i64 xo, .int .i64 3] W fun e w' => e = .returned (.int .i64 (pe : Nat)) ∧ w' = W) := fun W => by
        have := Within_any xo 3 (by decide) (by decide) hxo hxo' W
        rw [hpe] at this
        exact this
      have x0 := HX2.out.bk.cell 0
      have x1 := HX2.out.bk.cell 1
      have x2 := HX2.out.bk.cell 2
      have x3 := HX2.out.bk.cell 3
      have x4 := HX2.out.bk.cell 4
      have x5 := HX2.out.bk.cell 5
      simp only [List.getElem?_cons_zero, List.getElem?_cons_succ] at x0 x1 x2 x3 x4 x5
      clear hpg hpe hxp hxp' hxo hxo' HAX
      obtain ⟨z3, hz3⟩ : ∃ z3, xz.tmod 3 = z3 := ⟨_, rfl⟩
      go_upto_region 10 with (go_at_call 8; refine (CW1.out _).mono ?_; rintro e w' ⟨rfl, hw'⟩; obtain rfl := hw'.symm)
      have hip0 : (0 : Int) ≤ (pg : Int) := Int.natCast_nonneg pg
      have hip1 : (pg : Int) < 8 := by omega
      by_cases hz : z3 = 0
      case' pos =>
        subst hz
        obtain ⟨vm, hvm⟩ : ∃ vm : Nat, xv.tmod 20 = vm := ⟨(xv.tmod 20).toNat, by rw [Int.tmod_eq_emod_of_nonneg hv0]; omega⟩
        have hvm' : xv % 20 = (vm : Int) := by rw [← hvm, Int.tmod_eq_emod_of_nonneg hv0]
        have hvm20 : vm < 20 := by omega
        obtain ⟨f, hf⟩ : ∃ f : Nat, f = 40 + vm := ⟨_, rfl⟩
        have hf1 : 40 + (vm : Int) = (f : Int) := by omega
        have hf2 : IntKind.i64.wrap (f : Int) = (f : Int) := by simp only [IntKind.wrap, IntKind.signed, IntKind.bits]; simp; omega
        have hf3 : IntKind.i64.wrap (vm : Int) = (vm : Int) := by simp only [IntKind.wrap, IntKind.signed, IntKind.bits]; simp; omega
        have f0 : 40 ≤ f := by omega
        have f1 : f < 64 := by omega
        obtain ⟨r, hr⟩ : ∃ r, decide ((0 : Int) < (pe : Int)) = r := ⟨_, rfl⟩
        obtain ⟨u, hu⟩ : ∃ u, decide ((1 : Int) < (pe : Int)) = u := ⟨_, rfl⟩
        have hr' : decide (0 < pe) = r := by rw [← hr]; congr 1; simp
        have hu' : decide (1 < pe) = u := by rw [← hu]; congr 1; simp; omega
        have hru : u = true → r = true := fun h => by
          rw [← hu] at h
          rw [← hr]
          simp at h ⊢
          omega
        obtain ⟨tg, M3, B3, N3, _⟩ := HK2.out.M.mid HK2.out.B HK2.out.N hp8 ⟨true, r, u, (f : Nat)⟩
        obtain ⟨AE, HAE⟩ : ∃ AE : Array Value, Hid (AE = #[.bool true, .bool false, .bool r, .bool u, .bool false, .bool false, .int .i64 (f : Nat)]) := ⟨_, rfl⟩
        have hev : (Ne.ev ⟨true, r, u, (f : Nat)⟩) = AE.toList := by rw [HAE.out]; rfl
        rw [hev] at M3 B3 N3
        have tg : w2.there g (pg * 7) AE.size := by rw [HAE.out]; exact tg
        have hra : (w2.setCells g (pg * 7) AE.toList).rangeAt g (pg * 7) AE.toList := fun i v hv => by
          rw [B3.bk.cell]
          rw [← hev] at hv N3 ⊢
          exact N3.ce pg hp8 i v (by unfold putN; rw [if_pos rfl]; exact hv)
        have hle := run_loadAt_mid _ g (pg * 7) 32 AE.toList _ hra Tryz.underlying32 rfl (by rw [HAE.out]; exact Tryz.sizeE)
        have hle : (Instr.loadAt 32 (.pointer (some ⟨g, pg * 7, none⟩))).run Tryz.prog (w2.setCells g (pg * 7) AE.toList) = .ok (.agg AE) (w2.setCells g (pg * 7) AE.toList) := hle
        have HTG : Hid _ := tg
        have HLE : Hid (_ = _) := hle
        have hmr : N.may true false true u false false (f : Nat) = true ∨ True := Or.inr trivial
        have CS := set_iv M3.q HK2.out.hN HK2.out.I (pg := pg) (by omega) true false r u false false (f : Nat) (may_set hru f1) ⟨f, rfl, f0, f1⟩
        rw [show N.lo true false r u false false + ((f : Nat) : Int) * 256 = wo (f : Nat) r u false false from rfl] at CS
        obtain ⟨s1, hs1⟩ : ∃ s1, setS S1.1 0 pg true (wo (f : Nat) r u false false) = s1 := ⟨_, rfl⟩
        rw [hs1] at CS
        have HS1 : Hid (_ = s1) := hs1
        have CS : Hid (Calls _ _ _ _ _) := CS
        clear hs1
        have H3 : Hid (_ ∧ _ ∧ _) := (⟨M3, B3, N3⟩ : _ ∧ _ ∧ _)
        clear tg M3 B3 N3 hra hle hev hmr hvm20 hf hv0 hv1
        go_upto_region 12 with (go_at_call 8; refine (CW2.out _).mono ?_; rintro e w' ⟨rfl, hw'⟩; obtain rfl := hw'.symm)
        go_upto_region 13 with (refine wpList_store_mid rfl 32 (.tmp 64) (.tmp 63) rfl g (pg * 7) AE rfl (congrArg Value.agg HAE.out.symm) HTG.out (by rw [HAE.out]; exact Tryz.sizeE) (by rw [HAE.out]; simp [Value.oneCell']) ?_)
        generalize hw3 : w2.setCells g (pg * 7) AE.toList = w3 at H3 HLE CS ⊢
        clear hw3 HTG x0 x1 x2 x3 x4 x5 HX2
        have hle := HLE.out
        go_wp2_with (refine wpList_load_wg rfl 32 (.tmp 69) rfl (.pointer (some ⟨g, pg * 7, none⟩)) (.agg AE) rfl hle ?_)
        rw [HAE.out]
        refine CS.out.mono ?_
        rintro e w4 ⟨rfl, k1, k2, _⟩
        have H4 : Hid (Mq (fun k => k < w.heap.size) Q1 w w4 t c p (hwOf us) (par us 0) (s1, S1.2) m ∧ Bb Q1 w w4 g 55 _ ∧ Nw _ _) := ⟨H3.out.1.turn k1 k2, H3.out.2.1.ky k2, H3.out.2.2⟩
        obtain ⟨p4, hp4⟩ := H4.out.1.q.pt
        have CD : (Calls Tryz.prog 15 #[.pointer (some ⟨p4, 0, none⟩), .int .i64 1, .int .i64 (pg : Nat)] w4 fun e w' => (∃ bb e', e = .returned (.tuple #[.bool bb, .int .i64 e'])) ∧ Zq Q1 w' t c p (hwOf us) (par us 0) ({ s1 with l := T.rmL 1 pg s1.l }, S1.2) m ∧ Ky Q1 w4 w') := (drop_q H4.out.1.q hp4 1 (pg : Nat)).mono fun e w' ⟨he, k1, k2, _⟩ => ⟨⟨_, _, he⟩, k1, k2⟩
        obtain ⟨l1, hl1⟩ : ∃ l1, T.rmL 1 pg s1.l = l1 := ⟨_, rfl⟩
        rw [hl1] at CD
        have HL1 : Hid (_ = l1) := hl1
        have CD : Hid (Calls _ _ _ _ _) := CD
        clear hl1
        clear k1 k2 H3 hle HLE CS
        go_wp2_with fail
        refine CD.out.mono ?_
        rintro e w5 ⟨⟨bb4, e4, rfl⟩, k1, k2⟩
        have H5 : Hid (Mq (fun k => k < w.heap.size) Q1 w w5 t c p (hwOf us) (par us 0) ({ s1 with l := l1 }, S1.2) m ∧ Bb Q1 w w5 g 55 _ ∧ Nw _ _) := ⟨H4.out.1.turn k1 k2, H4.out.2.1.ky k2, H4.out.2.2⟩
        obtain ⟨p5, hp5⟩ := H5.out.1.q.pt
        have CD : Hid (Calls Tryz.prog 15 #[.pointer (some ⟨p5, 0, none⟩), .int .i64 2, .int .i64 (pg : Nat)] w5 fun e w' => (∃ bb e', e = .returned (.tuple #[.bool bb, .int .i64 e'])) ∧ Zq Q1 w' t c p (hwOf us) (par us 0) ({ s1 with l := T.rmL 2 pg l1 }, S1.2) m ∧ Ky Q1 w5 w') := (drop_q H5.out.1.q hp5 2 (pg : Nat)).mono fun e w' ⟨he, k1, k2, _⟩ => ⟨⟨_, _, he⟩, k1, k2⟩
        clear k1 k2 H4 hp4
        go_wp2_with fail
        refine CD.out.mono ?_
        rintro e w6 ⟨⟨bb5, e5, rfl⟩, k1, k2⟩
        have M6 : Mq (fun k => k < w.heap.size) Q1 w w6 t c p (hwOf us) (par us 0) ({ s1 with l := T.rmL 2 pg l1 }, S1.2) m := H5.out.1.turn k1 k2
        have B6 := H5.out.2.1.ky k2
        have hKn : Hid (∃ S v e L, Kn w w6 t c p g m Q1 S v e L) := ⟨_, _, _, _, HK2.out.turned hp8 f0 f1 hru H5.out.2.2 B6 (by rw [HS1.out, HL1.out]; exact M6)⟩
        clear k1 k2 H5 hp5 M6 B6
        go_wp2
        go_roundw
        case rel =>
          obtain ⟨S, v, e, L, hK⟩ := hKn.out
          exact ⟨k + 1, _, S, v, e, L, by omega, by omega, by go_num, hK⟩
        case measure => simp [D.iv]; omega
      case' neg =>
        have hzb : (z3 == 0) = false := beq_eq_false_iff_ne.2 hz
        clear CW1 CW2 hv0 hv1
        obtain ⟨ep, er, eu, ea, hen⟩ : ∃ ep er eu ea, en pg = ⟨ep, er, eu, ea⟩ := ⟨_, _, _, _, rfl⟩
        have HEN : Hid (en pg = ⟨ep, er, eu, ea⟩) := hen
        clear hen
        go_upto_region 18 with fail
        go_cut [86] from 85 to 86 (fun ta wx => ta = .bool xt ∧ wx = w2)
        case first =>
          go_wp2_with fail
          go_meet
          case rel => exact ⟨rfl, rfl⟩
        case rest =>
          obtain ⟨rfl, hwx⟩ := hcut
          obtain rfl := hwx.symm
          rename_i Kc hKc
          refine hKc _ _ ?_
          go_cut [12] from 12 to 12 (fun ta wx => ∃ a, (a = 1 ∨ a = 2) ∧ ta = .int .i64 a ∧ wx = w2)
          case first =>
            cases xt
            all_goals
              go_wp2_with fail
              go_meet
              case rel => first | exact ⟨1, Or.inl rfl, rfl, rfl⟩ | exact ⟨2, Or.inr rfl, rfl, rfl⟩
          case rest =>
            obtain ⟨a, haa, rfl, hwx⟩ := hcut
            obtain rfl := hwx.symm
            have CL : Hid (Calls _ _ _ _ _) := HK2.out.look haa hp8 xs
            have q5 : (a != a) = false := by simp
            clear haa
            go_wp2_with fail
            refine CL.out.mono ?_
            rintro e w4 ⟨⟨a1, a2, a3, a4, a5, a6⟩, tl, S4, v4, rfl, hK4, hy4, hres⟩
            rw [HEN.out] at hres ⊢
            obtain ⟨y, hy⟩ : ∃ y, alE ⟨ep, er, eu, ea⟩ xs = y := ⟨_, rfl⟩
            rw [hy] at hres ⊢
            have HR : Hid (y = 0 → _) := hres
            have HY : Hid (_ = y) := hy
            obtain ⟨Q5, hq5, M5, B5, l5⟩ := hK4.M.box 67 t0L
            obtain ⟨Q6, hq6, M6, B6, l6⟩ := M5.box 44 g0L
            have G6 := (((hK4.B).below l5).wide hq5 |>.below l6).wide hq6
            have X6 := (((HX2.out.ky hy4).below l5).wide hq5 |>.below l6).wide hq6
            have T6 := (B5.below l6).wide hq6
            have e1 : (w4.alloc (.cells (t0L : List Value).toArray 67)).heap.size = w4.heap.size + 1 := by simp
            rw [e1] at B6
            have hg4 : g < w4.heap.size := hK4.B.bk.lt
            have hx4 : gx < w4.heap.size := (HX2.out.ky hy4).bk.lt
            obtain ⟨W6, hW6⟩ : ∃ W6, (w4.alloc (.cells (t0L : List Value).toArray 67)).alloc (.cells (g0L : List Value).toArray 44) = W6 := ⟨_, rfl⟩
            rw [hW6] at M6 B6 G6 X6 T6
            simp only [t0L, g0L] at hW6
            obtain ⟨AT, HAT⟩ : ∃ AT : Array Value, Hid (AT = #[.int .i64 a1, .int .i64 a2, .int .i64 a3, .bool a4, .bool a5, .bool a6]) := ⟨_, rfl⟩
            obtain ⟨AG, HAG⟩ : ∃ AG : Array Value, Hid (AG = #[.int .u64 0, .int .u8 y, .bool tl, .bool false, .bool false]) := ⟨_, rfl⟩
            obtain ⟨tx, M7, T7, o7⟩ := M6.set T6 AT (by rw [HAT.out]; rfl)
            have G7 := o7 _ _ _ (by omega) G6
            have X7 := o7 _ _ _ (by omega) X6
            have B7 := o7 _ _ _ (by omega) B6
            obtain ⟨tg, M8, B8, o8⟩ := M7.set B7 AG (by rw [HAG.out]; rfl)
            have G8 := o8 _ _ _ (by omega) G7
            have X8 := o8 _ _ _ (by omega) X7
            have T8 := o8 _ _ _ (by omega) T7
            have HTX : Hid _ := tx
            have HTG : Hid _ := tg
            have T8 := T8.congr (show AT.toList = [.int .i64 a1, .int .i64 a2, .int .i64 a3, .bool a4, .bool a5, .bool a6] by rw [HAT.out])
            have B8 := B8.congr (show AG.toList = [.int .u64 0, .int .u8 y, .bool tl, .bool false, .bool false] by rw [HAG.out])
            have HK8 : Hid (Kn w ((W6.setCells w4.heap.size 0 AT.toList).setCells (w4.heap.size + 1) 0 AG.toList) t c p g m Q6 S4 v4 en L) := ⟨M8, G8, hK4.I, hK4.T, hK4.W, hK4.N, hK4.hN⟩
            have H8 : Hid (Bb Q6 w ((W6.setCells w4.heap.size 0 AT.toList).setCells (w4.heap.size + 1) 0 AG.toList) gx 40 _ ∧ Bb Q6 w ((W6.setCells w4.heap.size 0 AT.toList).setCells (w4.heap.size + 1) 0 AG.toList) w4.heap.size 67 _ ∧ Bb Q6 w ((W6.setCells w4.heap.size 0 AT.toList).setCells (w4.heap.size + 1) 0 AG.toList) (w4.heap.size + 1) 44 _) := ⟨X8, T8, B8⟩
            clear hK4 hy4 l5 l6 M5 M6 G6 X6 T6 B5 B6 M7 T7 o7 G7 X7 B7 M8 B8 o8 G8 X8 T8 tx tg e1 CL hres hy x0 x1 x2 x3 x4 x5 HX2 HK2 hq5 hq6
            go_upto_region 21 with (first
              | (refine wpList_store_mid rfl 67 (.tmp 13) (.tmp 96) rfl w4.heap.size 0 AT rfl (congrArg Value.agg HAT.out.symm) HTX.out (by rw [HAT.out]; exact Tryz.sizeT) (by rw [HAT.out]; exact oneT ⟨a1, a2, a3, a4, a5, a6⟩) ?_)
              | (refine wpList_store_mid rfl 44 (.tmp 14) (.tmp 97) rfl (w4.heap.size + 1) 0 AG rfl (congrArg Value.agg HAG.out.symm) HTG.out (by rw [HAG.out]; exact Tryz.sizeG) (by rw [HAG.out]; exact oneG _ _ _ _ _) ?_))
            clear hW6 HTX HTG HAT HAG
            generalize hw7 : (W6.setCells w4.heap.size 0 AT.toList).setCells (w4.heap.size + 1) 0 AG.toList = w7 at HK8 H8 ⊢
            clear hw7
            have x4 := H8.out.1.bk.cell 4
            have t0 := H8.out.2.1.bk.cell 0
            have t1 := H8.out.2.1.bk.cell 1
            have t2 := H8.out.2.1.bk.cell 2
            have t3 := H8.out.2.1.bk.cell 3
            have t4 := H8.out.2.1.bk.cell 4
            have g1 := H8.out.2.2.bk.cell 1
            simp only [List.getElem?_cons_zero, List.getElem?_cons_succ] at x4 t0 t1 t2 t3 t4 g1
            have HN := HK8.out.N.ce pg hp8
            rw [HEN.out] at HN
            have n0 : w7.cell? ⟨g, pg * 7, none⟩ = some (.bool ep) := (HK8.out.B.bk.cell _).trans (HN 0 _ rfl)
            have n2 : w7.cell? ⟨g, pg * 7 + 2, none⟩ = some (.bool er) := (HK8.out.B.bk.cell _).trans (HN 2 _ rfl)
            have n3 : w7.cell? ⟨g, pg * 7 + 3, none⟩ = some (.bool eu) := (HK8.out.B.bk.cell _).trans (HN 3 _ rfl)
            have n6 : w7.cell? ⟨g, pg * 7 + 6, none⟩ = some (.int .i64 ea) := (HK8.out.B.bk.cell _).trans (HN 6 _ rfl)
            have q1 : (er != er) = false := by simp
            have q2 : (eu != eu) = false := by simp
            have q3 : ((pg : Int) != (pg : Int)) = false := by simp
            have q4 : (ea != ea) = false := by simp
            clear HN H8 HEN
            have H5 := five HY.out HR.out
            clear HY HR
            rcases H5 with ⟨rfl, rfl⟩ | ⟨rfl, rfl, rfl, rfl, rfl, rfl, rfl, rfl, rfl⟩ | ⟨rfl, rfl, rfl, rfl⟩ | ⟨rfl, rfl, rfl, rfl, rfl, rfl, rfl, rfl, rfl⟩ | ⟨rfl, rfl, rfl, rfl⟩
            all_goals
              go_upto_region 24 with fail
              go_big_quiet (fail)
              have HK9 : Hid (Kn w (w7.drewN nq) t c p g m Q6 S4 v4 en L) := HK8.out.below (B.below_of (B.grown_drewN w7 _ none) _ (Nat.le_refl _) (by simp))
              have m0 := (show (w7.drewN nq).cell? ⟨g, pg * 7, none⟩ = _ from n0)
              have m1 := (show (w7.drewN nq).cell? ⟨w4.heap.size + 1, 1, none⟩ = _ from g1)
              generalize w7.drewN nq = w8 at HK9 m0 m1 ⊢
              clear HK8 n0 n2 n3 n6 t0 t1 t2 t3 t4 g1 x4 q1 q2 q3 q4 q5
              go_upto_region 26 with fail
              go_big_quiet (fail)
              have HKA : Hid (Kn w (w8.drewN nq) t c p g m Q6 S4 v4 en L) := HK9.out.below (B.below_of (B.grown_drewN w8 _ none) _ (Nat.le_refl _) (by simp))
              clear HK9 m0 m1
              go_wp2
              go_roundw
              case rel => exact ⟨k + 1, _, _, _, _, _, by omega, by omega, by go_num, HKA.out⟩
              case measure => simp [D.iv]; omega
    case' neg =>
      have HF : Hid (Below w.heap.size w wr) := HK.out.M.be
      clear HK
      by_cases h1 : k < l
      case' pos =>
        obtain rfl : k = 150 := by omega
        have d2 : decide (((150 : Nat) : Int) < (l : Int)) = true := by simp; omega
      case' neg =>
        obtain rfl : k = l := by omega
        have d1 : decide ((k : Int) < (k : Int)) = false := by simp
      all_goals
        clear hlt
        go_wp2
        exact bodyPost_ret (v := .bool true) (by simp [results, Tryz.results5, go_sem]) rfl ⟨rfl, HF.out⟩
end Go.Proofs.YtgljdbabagdhlaaGreat.Pg
