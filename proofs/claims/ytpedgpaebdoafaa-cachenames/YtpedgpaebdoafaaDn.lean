/- The statement's own 'done': a call, of both caches, is answered alike and leaves both alike. -/
import Derived.Test.YtpedgpaebdoafaaBt
namespace Go.Proofs.Ytpedgpaebdoafaa
open Go.ChangeShapes Go.WideShapes Go.ChangeAt Go.RowKit
set_option linter.unusedVariables false

def doV (Kind Set Tag : Int) : List Value := [.int .i64 Kind, .int .i64 Set, .int .u64 Tag]
/-- What done leaves: both caches alike, the box unturned. -/
def Dst (P : Nat → Prop) (B : Nat) (vs : List Value) (w2 w : World) (p q n m : Nat) (f g : Nat → List Int) : Prop := Bth (fun k => P k ∨ k = B) w2 w p q n m f g ∧ Bx w B vs
theorem Dst.of {P : Nat → Prop} {B : Nat} {vs : List Value} {w2 w w' : World} {p q n m : Nat} {f g f' g' : Nat → List Int} (h : Dst P B vs w2 w p q n m f g) (h' : Bth (fun k => P k ∨ k = B) w2 w' p q n m f' g') : Dst P B vs w2 w' p q n m f' g' := by
  obtain ⟨a, b⟩ := h
  have e1 := a.kpt.block B (Or.inr rfl)
  have e2 := h'.kpt.block B (Or.inr rfl)
  have hlt := a.kpt.lt B (Or.inr rfl)
  have hs := h'.kpt.size
  exact ⟨h', Nat.lt_of_lt_of_le hlt hs, fun i v hv => (World.cell?_of_block (w := w) (a := ⟨B, i, none⟩) (e2.trans e1.symm)).trans (b.2 i v hv)⟩
theorem Dst.below {P : Nat → Prop} {B : Nat} {vs : List Value} {w2 w w' : World} {p q n m : Nat} {f g : Nat → List Int} (h : Dst P B vs w2 w p q n m f g) (k : Below w.heap.size w w') : Dst P B vs w2 w' p q n m f g := ⟨h.1.below k, h.2.below k⟩
theorem Lns.cellz {B : Nat} {w : World} {v : Value} {l : List (Nat × Int)} (o : Lns B w v l) {k : Nat} {x : Nat × Int} (hk : l[k]? = some x) : ∃ g cap, v = .slice (some ⟨g, 0, none⟩) l.length cap ∧ w.cell? ⟨g, k * 2, none⟩ = some (.int .i64 x.1) ∧ w.cell? ⟨g, k * 2 + 1, none⟩ = some (.int .u64 x.2) ∧ w.frozen? ⟨g, k * 2 + 1, none⟩ = false := by
  obtain ⟨g, cap, h1, h2, h3⟩ := o.cell hk
  refine ⟨g, cap, h1, h2, h3, ?_⟩
  rcases o.2 with ⟨h4, _⟩ | ⟨g', cap', cur, h4, _, h5, _⟩
  · rw [h4] at h1; cases h1
  · rw [h4] at h1
    cases h1
    simp [World.frozen?, h5]
theorem There_at {P : Nat → Prop} {w0 w : World} {p q n m : Nat} {f g : Nat → List Int} (h : Bth P w0 w p q n m f g) (i : Int) (b : Bool) (hb : decide (0 ≤ i ∧ i < n) = b) :
    Calls Try.prog 23 #[.pointer (some ⟨q, 0, none⟩), .int .i64 i] w fun e w' => e = .returned (.bool b) ∧ w' = w := by
  obtain ⟨F, c⟩ := h.ca2
  have := There_any c i
  rw [hb] at this
  exact this
set_option maxRecDepth 100000 in
set_option maxHeartbeats 4000000 in
theorem done_any {P : Nat → Prop} {w0 w : World} {p q n m : Nat} {f : Nat → List Int} (h : Bth P w0 w p q n m f f) (Kind Set Tag : Int) (hk0 : -9223372036854775808 ≤ Kind) (hk1 : Kind < 9223372036854775808) (ht0 : 0 ≤ Tag) (ht1 : Tag < 18446744073709551616) :
    Calls Try.prog 11 #[.pointer (some ⟨p, 0, none⟩), .pointer (some ⟨q, 0, none⟩), .agg (doV Kind Set Tag).toArray] w fun e w' => e = .returned (.bool true) ∧ ∃ f', Bth P w0 w' p q n m f' f' := by
  obtain ⟨vs, hvs⟩ : ∃ vs, vs = doV Kind Set Tag := ⟨_, rfl⟩
  have v0 : Hid (vs[0]? = some (.int .i64 Kind)) := by rw [hvs]; rfl
  have v1 : Hid (vs[1]? = some (.int .i64 Set)) := by rw [hvs]; rfl
  have v2 : Hid (vs[2]? = some (.int .u64 Tag)) := by rw [hvs]; rfl
  have hbx := bx_new w (doV Kind Set Tag).toArray 34
  have hD : Dst P w.heap.size vs (w.alloc (.cells (doV Kind Set Tag).toArray 34)) (w.alloc (.cells (doV Kind Set Tag).toArray 34)) p q n m f f := by
    rw [hvs]
    exact ⟨h.box _, hbx⟩
  have HEND : Hid (∀ w' f', Dst P w.heap.size vs (w.alloc (.cells (doV Kind Set Tag).toArray 34)) w' p q n m f' f' → ∃ f', Bth P w0 w' p q n m f' f') := fun w' f' d => ⟨f', h.unbox d.1⟩
  have D2 : Hid (Dst P w.heap.size vs (w.alloc (.cells (doV Kind Set Tag).toArray 34)) (w.alloc (.cells (doV Kind Set Tag).toArray 34)) p q n m f f) := hD
  clear hD hbx hvs h
  unfold doV at *
  have d0 := D2.out.2.2 0 _ v0.out
  have CK : Hid (∀ W, Calls Try.prog 13 #[.int .i64 Kind, .int .i64 4] W fun e w' => e = .returned (.int .i64 (Kind % 4)) ∧ w' = W) := fun W => Within_any Kind 4 (by omega) (by omega) hk0 hk1 W
  have hr : Kind % 4 = 0 ∨ Kind % 4 = 1 ∨ Kind % 4 = 2 ∨ Kind % 4 = 3 := by omega
  go_enter Try.func11, Try.ntmps11
  go_wp2_with fail
  refine (CK.out _).mono ?_
  rintro e w' ⟨rfl, rfl⟩
  generalize hBB : w.heap.size = BB at *
  generalize hw2 : w.alloc (.cells [Value.int .i64 Kind, .int .i64 Set, .int .u64 Tag].toArray 34) = w2 at *
  clear CK hw2
  have d1 := D2.out.2.2 1 _ v1.out
  have d2 := D2.out.2.2 2 _ v2.out
  rcases hr with hr | hr | hr | hr
  · rw [hr]
    clear hr
    by_cases hi : 0 ≤ Set ∧ Set < n
    · obtain ⟨s, rfl⟩ := Int.eq_ofNat_of_zero_le hi.1
      have hs : s < n := by omega
      obtain ⟨bb, hbb⟩ : ∃ bb, decide (Tag ∈ f s) = bb := ⟨_, rfl⟩
      have HBB : Hid (decide (Tag ∈ f s) = bb) := hbb
      clear hbb
      go_wp2_with fail
      refine (D2.out.1.touch s hs Tag ht0 ht1).mono ?_
      rintro e w3 ⟨rfl, hB⟩
      rw [HBB.out]
      have D3 : Hid (Dst P BB vs w2 w3 p q n m (put f s (tch m Tag (f s))) f) := D2.out.of hB
      clear hB d0 d1 d2
      have d1 := D3.out.2.2 1 _ v1.out
      have d2 := D3.out.2.2 2 _ v2.out
      go_wp2_with fail
      refine (There_at D3.out.1 s true (by simp; omega)).mono ?_
      rintro e w' ⟨rfl, rfl⟩
      go_wp2_with fail
      refine (D3.out.1.rtouch s hs Tag ht0 ht1).mono ?_
      rintro e w4 ⟨rfl, hB⟩
      rw [HBB.out]
      have D4 : Hid (Dst P BB vs w2 w4 p q n m (put f s (tch m Tag (f s))) (put f s (tch m Tag (f s)))) := D3.out.of hB
      clear hB d1 d2
      go_wp2
      go_ret
      exact ⟨by simp, HEND.out _ _ D4.out⟩
    · have HB : Hid (decide (0 ≤ Set ∧ Set < n) = false) := decide_eq_false hi
      obtain ⟨F, c⟩ := D2.out.1.ca1
      have CT : Hid (Calls _ _ _ _ _) := Touch_no c Set Tag (by omega)
      clear c
      go_wp2_with fail
      refine CT.out.mono ?_
      rintro e w' ⟨rfl, rfl⟩
      go_wp2_with fail
      refine (There_at D2.out.1 Set false HB.out).mono ?_
      rintro e w' ⟨rfl, rfl⟩
      go_wp2
      go_ret
      exact ⟨rfl, HEND.out _ _ D2.out⟩
  · rw [hr]
    clear hr
    by_cases hi : 0 ≤ Set ∧ Set < n
    · obtain ⟨s, rfl⟩ := Int.eq_ofNat_of_zero_le hi.1
      have hs : s < n := by omega
      obtain ⟨F, c⟩ := D2.out.1.ca1
      obtain ⟨G, d⟩ := D2.out.1.ca2
      have CT : Hid (Calls _ _ _ _ _) := Has_ok c s hs Tag
      have CR : Hid (Calls _ _ _ _ _) := rHas_ok d s hs Tag
      clear c d
      generalize decide (Tag ∈ f s) = bb at *
      go_wp2_with fail
      refine CT.out.mono ?_
      rintro e w' ⟨rfl, rfl⟩
      go_wp2_with fail
      refine (There_at D2.out.1 s true (by simp; omega)).mono ?_
      rintro e w' ⟨rfl, rfl⟩
      go_wp2_with fail
      refine CR.out.mono ?_
      rintro e w' ⟨rfl, rfl⟩
      go_wp2
      go_ret
      exact ⟨by simp, HEND.out _ _ D2.out⟩
    · have HB : Hid (decide (0 ≤ Set ∧ Set < n) = false) := decide_eq_false hi
      obtain ⟨F, c⟩ := D2.out.1.ca1
      have CT : Hid (Calls _ _ _ _ _) := Has_no c Set Tag (by omega)
      clear c
      go_wp2_with fail
      refine CT.out.mono ?_
      rintro e w' ⟨rfl, rfl⟩
      go_wp2_with fail
      refine (There_at D2.out.1 Set false HB.out).mono ?_
      rintro e w' ⟨rfl, rfl⟩
      go_wp2
      go_ret
      exact ⟨rfl, HEND.out _ _ D2.out⟩
  · rw [hr]
    clear hr d1 d2
    obtain ⟨l, hl⟩ : ∃ l, lns f n = l := ⟨_, rfl⟩
    have HL : Hid (lns f n = l) := hl
    have hlen : l.length ≤ 65536 := by rw [← hl]; exact D2.out.1.len
    clear hl
    have BB2 : Hid (Below w2.heap.size w2 w2) := Below.refl _ _
    go_wp2_with fail
    refine D2.out.1.lines.mono ?_
    rintro e w3 ⟨va, rfl, la, b3⟩
    rw [HL.out] at la
    have A3 : Hid (Lns w2.heap.size w3 va l) := la
    have B3 : Hid (Below w2.heap.size w2 w3) := b3
    have D3 : Hid (Dst P BB vs w2 w3 p q n m f f) := D2.out.below b3
    clear la b3 d0 BB2
    go_wp2_with fail
    refine D3.out.1.lines.mono ?_
    rintro e w4 ⟨vb, rfl, lb, b4⟩
    rw [HL.out] at lb
    have E4 : Hid (Lns w3.heap.size w4 vb l) := lb
    have A4 : Hid (Lns w2.heap.size w4 va l) := A3.out.below b4
    have B4 : Hid (Below w2.heap.size w2 w4) := B3.out.trans (b4.mono B3.out.size)
    have D4 : Hid (Dst P BB vs w2 w4 p q n m f f) := D3.out.below b4
    clear lb b4 D3
    go_wp2_with fail
    refine D4.out.1.rlines.mono ?_
    rintro e w5 ⟨vc, rfl, lc, b5⟩
    rw [HL.out] at lc
    have C5 : Hid (Lns w4.heap.size w5 vc l) := lc
    have E5 : Hid (Lns w3.heap.size w5 vb l) := E4.out.below b5
    have A5 : Hid (Lns w2.heap.size w5 va l) := A4.out.below b5
    have B5 : Hid (Below w2.heap.size w2 w5) := B4.out.trans (b5.mono B4.out.size)
    have D5 : Hid (Dst P BB vs w2 w5 p q n m f f) := D4.out.below b5
    clear lc b5 D4 A4 E4 B4
    go_wp2_with fail
    refine (Same_any A5.out C5.out (by omega)).mono ?_
    rintro e w6 ⟨rfl, b6⟩
    have E6 : Hid (Lns w3.heap.size w6 vb l) := E5.out.below b6
    have A6 : Hid (Lns w2.heap.size w6 va l) := A5.out.below b6
    have B6 : Hid (Below w2.heap.size w2 w6) := B5.out.trans (b6.mono B5.out.size)
    have D6 : Hid (Dst P BB vs w2 w6 p q n m f f) := D5.out.below b6
    clear b6 D5 A5 E5 B5 C5
    obtain ⟨F, c⟩ := D6.out.1.ca1
    obtain ⟨G, d⟩ := D6.out.1.ca2
    have CT : Hid (Calls _ _ _ _ _) := Count_ok c
    have CR : Hid (Calls _ _ _ _ _) := rCount_ok d
    clear c d D6
    generalize cnt f n = ct at *
    go_wp2_with fail
    refine CT.out.mono ?_
    rintro e w' ⟨rfl, rfl⟩
    go_wp2_with fail
    refine CR.out.mono ?_
    rintro e w' ⟨rfl, rfl⟩
    clear CT CR
    obtain ⟨N, hN⟩ : ∃ N, l.length = N := ⟨_, rfl⟩
    have HN : Hid (l.length = N) := hN
    obtain ⟨aa, ca, hva⟩ := A6.out.len
    rw [hN] at hlen hva
    subst hva
    clear hN
    have AC : Hid (∀ j, j < N → ∃ g x, aa = some ⟨g, 0, none⟩ ∧ w'.cell? ⟨g, j * 2 + 1, none⟩ = some (.int .u64 x) ∧ w'.frozen? ⟨g, j * 2 + 1, none⟩ = false) := by
      intro j hj
      have hg : l[j]? = some (l[j]'(by rw [HN.out]; exact hj)) := List.getElem?_eq_getElem _
      obtain ⟨g, cp, e1, _, e3, e4⟩ := A6.out.cellz hg
      cases e1
      exact ⟨g, _, rfl, e3, e4⟩
    go_wp2_with fail
    go_loopw [13] (fun i wr => ∃ k : Nat, k ≤ N ∧ i = .int .i64 k ∧ w'.grownBy wr (Value.slice aa N ca).ownBlock ∧ ∀ j, j < N → ∃ g x, aa = some ⟨g, 0, none⟩ ∧ wr.cell? ⟨g, j * 2 + 1, none⟩ = some (.int .u64 x) ∧ wr.frozen? ⟨g, j * 2 + 1, none⟩ = false) (fun i _ => N - (intOf i).toNat)
    case atStart => exact ⟨0, by omega, rfl, World.grownBy.refl _ _, AC.out⟩
    case round =>
      clear AC
      obtain ⟨k, hk, rfl, hg, hA⟩ := hrel
      have HG : Hid (w'.grownBy wr (Value.slice aa N ca).ownBlock) := hg
      have AC : Hid (∀ j, j < N → ∃ g x, aa = some ⟨g, 0, none⟩ ∧ wr.cell? ⟨g, j * 2 + 1, none⟩ = some (.int .u64 x) ∧ wr.frozen? ⟨g, j * 2 + 1, none⟩ = false) := hA
      clear hg hA
      by_cases hlt : k < N
      · obtain ⟨g, x, e1, e2, e3⟩ := AC.out k hlt
        subst e1
        go_wp2_with fail
        go_roundw
        case rel =>
          refine ⟨k + 1, by omega, by go_num, HG.out.trans (grown_setCell' _ _ _ _), fun j hj => ?_⟩
          obtain ⟨g', x', e4, e5, e6⟩ := AC.out j hj
          cases e4
          by_cases q : j = k
          · subst q
            exact ⟨g, _, rfl, World.cell?_setCell_same _ _ _ e5, by rw [World.frozen?_setCell]; exact e6⟩
          · exact ⟨g, x', rfl, by rw [World.cell?_setCell_other _ _ _ _ (by intro h; have h := congrArg Addr.off h; simp only at h; omega)]; exact e5, by rw [World.frozen?_setCell]; exact e6⟩
        case measure => simp [intOf]; omega
      · obtain rfl : k = N := by omega
        have bR : Below w2.heap.size w2 wr := B6.out.grown HG.out B6.out.size (fun i hi => (owns_lt A6.out i hi).1)
        have DR : Hid (Dst P BB vs w2 wr p q n m f f) := D2.out.below bR
        have ER : Hid (Lns w3.heap.size wr vb l) := owns_eq E6.out (fun i hi => HG.out.block i (owns_lt E6.out i hi).2 (fun z => by
          have h1 := (owns_lt E6.out i hi).1
          have h2 := (owns_lt A3.out i z.symm).2
          omega))
        clear bR AC HG E6 A6 B6
        generalize wr = w7 at *
        go_wp2_with fail
        refine DR.out.1.rlines.mono ?_
        rintro e w8 ⟨v8, rfl, l8, b8⟩
        rw [HL.out] at l8
        have L8 : Hid (Lns w7.heap.size w8 v8 l) := l8
        have E8 : Hid (Lns w3.heap.size w8 vb l) := ER.out.below b8
        have D8 : Hid (Dst P BB vs w2 w8 p q n m f f) := DR.out.below b8
        clear l8 b8 DR ER
        go_wp2_with fail
        refine (Same_any E8.out L8.out (by rw [HN.out]; omega)).mono ?_
        rintro e w9 ⟨rfl, b9⟩
        have D9 : Hid (Dst P BB vs w2 w9 p q n m f f) := D8.out.below b9
        clear b9 D8 E8 L8
        go_wp2_with fail
        refine D9.out.1.lines.mono ?_
        rintro e w10 ⟨v10, rfl, l10, b10⟩
        rw [HL.out] at l10
        have L10 : Hid (Lns w9.heap.size w10 v10 l) := l10
        have D10 : Hid (Dst P BB vs w2 w10 p q n m f f) := D9.out.below b10
        clear l10 b10 D9
        go_wp2_with fail
        refine D10.out.1.rlines.mono ?_
        rintro e w11 ⟨v11, rfl, l11, b11⟩
        rw [HL.out] at l11
        have L11 : Hid (Lns w10.heap.size w11 v11 l) := l11
        have K11 : Hid (Lns w9.heap.size w11 v10 l) := L10.out.below b11
        have D11 : Hid (Dst P BB vs w2 w11 p q n m f f) := D10.out.below b11
        clear l11 b11 D10 L10
        go_wp2_with fail
        refine (Same_any K11.out L11.out (by rw [HN.out]; omega)).mono ?_
        rintro e w12 ⟨rfl, b12⟩
        have D12 : Hid (Dst P BB vs w2 w12 p q n m f f) := D11.out.below b12
        clear b12 D11 L11 K11
        go_wp2
        go_ret
        exact ⟨rfl, HEND.out _ _ D12.out⟩
  · rw [hr]
    clear hr
    go_wp2_with fail
    refine D2.out.1.flush.mono ?_
    rintro e w3 ⟨rfl, hB⟩
    have D3 : Hid (Dst P BB vs w2 w3 p q n m (fun _ => []) f) := D2.out.of hB
    have CR : Hid (Calls _ _ _ _ _) := hB.rflush
    clear hB d0 d1 d2
    generalize cnt f n = c at *
    go_wp2_with fail
    refine CR.out.mono ?_
    rintro e w4 ⟨rfl, hB⟩
    have D4 : Hid (Dst P BB vs w2 w4 p q n m (fun _ => []) (fun _ => [])) := D3.out.of hB
    clear hB
    go_wp2
    go_ret
    exact ⟨by simp, HEND.out _ _ D4.out⟩
end Go.Proofs.Ytpedgpaebdoafaa
