/- The book's two maps: by number, by page and process; a key of two numbers; no condition but those that each theorem names. -/
import Derived.Test.YtkbpnkjjmipjfaaGreatVZb
import Derived.Test.YtkbpnkjjmipjfaaGreatVZf
import Derived.DeepKeys4
namespace Go.Proofs.YtkbpnkjjmipjfaaGreat.Az
open B P Go.ChangeShapes Go.WideShapes Go.ChangeAt Go.RowKit
set_option linter.unusedVariables false
set_option maxRecDepth 100000

theorem Tryz.laidOutK : laidOutB Tryz.prog = true := by kernel_rfl
theorem Tryz.rowKey : (72 : TypeId) < Tryz.prog.types.size := of_decide_eq_true (by kernel_rfl)
theorem Tryz.wideKey : (match Tryz.prog.underlying 72 with | some (.array _ _) | some (.struct _) => true | _ => false) = true := by kernel_rfl
theorem lawKey : Go.WideMaps.KeyLaw Tryz.prog 72 := deep_law_laid Tryz.laidOutK (m := 2) (by omega) Tryz.rowKey (by kernel_rfl) Tryz.wideKey
theorem keyedK : Maps.Keyed Tryz.prog 72 := Maps.Keyed.of_law lawKey
abbrev Kt : Type := Fin 5 × Fin 4
def kv (x : Kt) : Value := .agg #[.int .i64 (x.1.val : Int), .int .i64 (x.2.val : Int)]
theorem kv_some : ∀ (a : Fin 5) (b : Fin 4), (keyOf Tryz.prog 72 (kv (a, b))).isSome = true := of_decide_eq_true (by kernel_rfl)
noncomputable def kk (x : Kt) : Lit := (keyOf Tryz.prog 72 (kv x)).getD (.int .i64 0)
theorem kk_ok (x : Kt) : keyOf Tryz.prog 72 (kv x) = some (kk x) := by
  have h := kv_some x.1 x.2
  unfold kk
  cases e : keyOf Tryz.prog 72 (kv x) with
  | none => rw [show kv x = kv (x.1, x.2) from rfl] at e; rw [e] at h; cases h
  | some l => rfl
theorem kk_inj {x : Kt} : ∀ y, kk y = kk x → y = x := fun y h => by
  have e := keyedK.inj (kk_ok y) ((congrArg some h).symm ▸ kk_ok x)
  unfold kv at e
  injection e with e
  have e1 := congrArg (fun a : Array Value => a.toList) e
  simp only [List.cons.injEq, Value.int.injEq, true_and, and_true] at e1
  exact Prod.ext (Fin.ext (by omega)) (Fin.ext (by omega))
def kt (p q : Nat) (hp : p < 5) (hq : q < 4) : Kt := (⟨p, hp⟩, ⟨q, hq⟩)
theorem kt_ok (p q : Nat) (hp : p < 5) (hq : q < 4) : keyOf Tryz.prog 72 (.agg #[.int .i64 (p : Int), .int .i64 (q : Int)]) = some (kk (kt p q hp hq)) := kk_ok (kt p q hp hq)
structure Bm (w : World) (hb cb n : Nat) (hs : Int → Int → Int) (ct : Int → Int) : Prop where
  h : ∃ m, Mv 72 kk w hb n m ∧ ∀ p q hp hq, (m (kt p q hp hq)).getD (.int .i64 0) = .int .i64 (hs p q)
  c : ∃ m, Mv 3 ik w cb n m ∧ ∀ i : Nat, (m i).getD (.int .i64 0) = .int .i64 (ct i)
section
variable {w w' : World} {hb cb n : Nat} {hs : Int → Int → Int} {ct : Int → Int}
theorem Bm.of_eq (K : Bm w hb cb n hs ct) (e1 : w'.heap[hb]? = w.heap[hb]?) (e2 : w'.heap[cb]? = w.heap[cb]?) : Bm w' hb cb n hs ct := by
  obtain ⟨m, h1, h2⟩ := K.h
  obtain ⟨k, c1, c2⟩ := K.c
  exact ⟨⟨m, h1.of_eq e1, h2⟩, ⟨k, c1.of_eq e2, c2⟩⟩
theorem Bm.hlt (K : Bm w hb cb n hs ct) : hb < w.heap.size := by obtain ⟨m, h1, _⟩ := K.h; exact h1.lt
theorem Bm.clt (K : Bm w hb cb n hs ct) : cb < w.heap.size := by obtain ⟨m, h1, _⟩ := K.c; exact h1.lt
theorem Bm.below (K : Bm w hb cb n hs ct) (k : Below w.heap.size w w') : Bm w' hb cb n hs ct := K.of_eq (k.block _ K.hlt) (k.block _ K.clt)
theorem Bm.more (K : Bm w hb cb n hs ct) {m : Nat} (q : n ≤ m) : Bm w hb cb m hs ct := by
  obtain ⟨m, h1, h2⟩ := K.h
  obtain ⟨k, c1, c2⟩ := K.c
  exact ⟨⟨m, h1.more q, h2⟩, ⟨k, c1.more q, c2⟩⟩
theorem zero_int (w : World) : (zeroValue 3).run Tryz.prog w = .ok (.int .i64 0) w := by kernel_rfl
theorem Bm.has (K : Bm w hb cb n hs ct) (p q : Nat) (hp : p < 5) (hq : q < 4) : (Instr.lookup 68 (.map (some hb)) (.agg #[.int .i64 (p : Int), .int .i64 (q : Int)]) false).run Tryz.prog w = .ok (.int .i64 (hs p q)) w := by
  obtain ⟨m, h1, h2⟩ := K.h
  rw [h1.look1 keyedK Tryz.underlying68 (zero_int w) (kt_ok p q hp hq), h2]
theorem Bm.cnt (K : Bm w hb cb n hs ct) (i : Nat) (hi : i < 9223372036854775807) : (Instr.lookup 69 (.map (some cb)) (.int .i64 (i : Int)) false).run Tryz.prog w = .ok (.int .i64 (ct i)) w := by
  obtain ⟨m, h1, h2⟩ := K.c
  rw [h1.look1 keyed Tryz.underlying69 (zero_int w) (x := (i : Int)) (ik_in (by omega) (by omega)), h2]
theorem Bm.sethas (K : Bm w hb cb n hs ct) (hn : n < maxLen) (hne : hb ≠ cb) (p q : Nat) (hp : p < 5) (hq : q < 4) (v : Int) : ∃ w', (Instr.mapUpdate 68 (.map (some hb)) (.agg #[.int .i64 (p : Int), .int .i64 (q : Int)]) (.int .i64 v)).run Tryz.prog w = .ok () w' ∧ Bm w' hb cb (n + 1) (up2 hs p q v) ct ∧ w.grownBy w' (some hb) := by
  obtain ⟨m, h1, h2⟩ := K.h
  obtain ⟨k, c1, c2⟩ := K.c
  obtain ⟨w', hr, hM, hG⟩ := h1.store keyedK Tryz.underlying68 hn (kt_ok p q hp hq) kk_inj (.int .i64 v)
  refine ⟨w', hr, ⟨⟨_, hM, fun a b ha hb => ?_⟩, ⟨k, (c1.of_eq (hG.block _ c1.lt (fun e => hne (by injection e with e; exact e.symm)))).more (Nat.le_succ _), c2⟩⟩, hG⟩
  unfold pk up2
  by_cases e : kt a b ha hb = kt p q hp hq
  · rw [if_pos e]
    have e1 := congrArg (fun x : Kt => (x.1.val, x.2.val)) e
    simp only [kt, Prod.mk.injEq] at e1
    rw [if_pos ⟨by omega, by omega⟩]
    rfl
  · rw [if_neg e, if_neg, h2]
    rintro ⟨e1, e2⟩
    have : a = p := by omega
    subst this
    have : b = q := by omega
    subst this
    exact e rfl
theorem Bm.setcnt (K : Bm w hb cb n hs ct) (hn : n < maxLen) (hne : hb ≠ cb) (i : Nat) (hi : i < 9223372036854775807) (v : Int) : ∃ w', (Instr.mapUpdate 69 (.map (some cb)) (.int .i64 (i : Int)) (.int .i64 v)).run Tryz.prog w = .ok () w' ∧ Bm w' hb cb (n + 1) hs (up1 ct i v) ∧ w.grownBy w' (some cb) := by
  obtain ⟨m, h1, h2⟩ := K.h
  obtain ⟨k, c1, c2⟩ := K.c
  obtain ⟨w', hr, hM, hG⟩ := c1.store keyed Tryz.underlying69 hn (x := (i : Int)) (ik_in (by omega) (by omega)) ik_inj (.int .i64 v)
  refine ⟨w', hr, ⟨⟨m, (h1.of_eq (hG.block _ h1.lt (fun e => hne (by injection e)))).more (Nat.le_succ _), h2⟩, ⟨_, hM, fun j => ?_⟩⟩, hG⟩
  unfold pk up1
  by_cases e : (j : Int) = (i : Int)
  · rw [if_pos e, if_pos e]
    rfl
  · rw [if_neg e, if_neg e, c2]
end
end Go.Proofs.YtkbpnkjjmipjfaaGreat.Az
namespace Go.Proofs.YtkbpnkjjmipjfaaGreat.Az
open B P Go.ChangeShapes Go.WideShapes Go.ChangeAt Go.RowKit
set_option linter.unusedVariables false
set_option maxRecDepth 8192

section
variable {Y : Nat → Prop} {w0 w : World} {z : Pz} {hw : E.Hw} {Q : Par} {u n : Nat} {f : Rs} {hs : Int → Int → Int} {ct : Int → Int} {hb cb : Nat}
theorem ofb_in {p q : Nat} (hp : p < 5) (hq : q < 4) {i e : Int} {t : Bool} (h : OfB f p q i t e) (b : Bk f hs ct) {N : Nat} (o : Ok f N) : e = 0 ∧ ((∃ k : Nat, i = k ∧ t = true ∧ hs p q = (k : Int) + 1 ∧ k < N) ∨ (i = 0 ∧ t = false ∧ hs p q = 0)) := by
  rcases h with ⟨x, _⟩ | ⟨_, x, rfl⟩
  · exact absurd ⟨by omega, by omega, by omega, by omega⟩ x
  · refine ⟨rfl, ?_⟩
    rcases x with ⟨k, hk, rfl, rfl⟩ | ⟨hn, rfl, rfl⟩
    · exact Or.inl ⟨k, rfl, rfl, (b.on _ _ _).2 hk, by obtain ⟨r, hr, _⟩ := hk; exact o.lt hr⟩
    · exact Or.inr ⟨rfl, rfl, b.zero.2 hn⟩
set_option maxHeartbeats 2000000 in
theorem kept_ok (T : Tt Y w0 w z hw Q u 20 f) (b : Bk f hs ct) (m : Bm w hb cb n hs ct) : Calls Tryz.prog 28 #[.pointer (some ⟨z.a, 0, none⟩), .pointer (some ⟨z.s, 0, none⟩), .map (some hb), .map (some cb)] w fun e w' => e = .returned (.bool true) ∧ Below w.heap.size w w' := by
  have HT : Hid (Tt Y w0 w z hw Q u 20 f) := T
  have HM : Hid (Bm w hb cb n hs ct) := m
  have HB : Hid (Bk f hs ct) := b
  clear T m b
  go_enter Tryz.func28, Tryz.ntmps28
  go_wp2
  go_loopw [9, 10] (fun a i wr => ∃ k : Nat, k ≤ 20 ∧ i = .int .i64 k ∧ a = .int .i64 (cn f k : Nat) ∧ Below w.heap.size w wr) (fun _ i _ => 20 - (intOf i).toNat)
  case atStart => exact ⟨0, by omega, rfl, rfl, Below.refl _ _⟩
  case round =>
    obtain ⟨k, hk, rfl, rfl, hB⟩ := hrel
    have hcn := cn_le f k
    by_cases hlt : k < 20
    · have CG : Hid (Calls _ _ _ _ _) := (HT.out.below hB).get (id := (k : Int)) ⟨by omega, by omega⟩
      have HW : Hid (Below w.heap.size w wr) := hB
      clear hB
      go_wp2_with fail
      refine CG.out.mono ?_
      rintro e w1 ⟨hG, hB1⟩
      have HB1 : Hid (Below w.heap.size w w1) := HW.out.trans (hB1.mono HW.out.size)
      rcases hG with ⟨hr, rfl⟩ | ⟨r, v, hr, rfl, ho, _⟩
      · rw [rcd_nat] at hr
        have e0 : ct k = 0 := by rw [HB.out.ct, hr]; rfl
        have e1 : cn f (k + 1) = cn f k := by simp [cn, hr]
        have B2 : Below w.heap.size w (w1.alloc (.cells #[.int .i64 0, .slice none 0 0, .int .i64 0, .int .i64 0] 79)) := HB1.out.alloc HB1.out.size _
        have hl := (HM.out.below B2).cnt k (by omega)
        rw [e0] at hl
        have HB2 : Hid (_) := B2
        clear CG hB1 B2 hr e0
        generalize cn f k = c at *
        go_wp2
        go_roundw
        case rel => exact ⟨k + 1, by omega, by go_num, by rw [e1], HB2.out⟩
        case measure => simp [intOf]; omega
      · rw [rcd_nat] at hr
        have e0 : ct k = (r.ps.length : Nat) := by rw [HB.out.ct, hr]; rfl
        have hpos := List.length_pos_iff.2 (HT.out.ok.ne k r hr)
        have hle := HT.out.ok.len hr
        have e1 : cn f (k + 1) = cn f k + 1 := by simp [cn, hr]
        obtain ⟨x, cap, rfl⟩ : ∃ x cap, v = .slice (some ⟨x, 0, none⟩) r.ps.length cap := by
          rcases ho.shape with ⟨_, e⟩ | ⟨x, cap, C, e, _⟩
          · exact absurd e (HT.out.ok.ne k r hr)
          · exact ⟨x, cap, e⟩
        have B2 : Below w.heap.size w (w1.alloc (.cells #[.int .i64 r.pg, .slice (some ⟨x, 0, none⟩) r.ps.length cap, .int .i64 r.fr, .int .i64 r.sl] 79)) := HB1.out.alloc HB1.out.size _
        have hl := (HM.out.below B2).cnt k (by omega)
        rw [e0] at hl
        have HB2 : Hid (_) := B2
        clear CG hB1 B2 hr e0 ho
        generalize cn f k = c at *
        generalize r.ps.length = nl at *
        go_wp2
        go_roundw
        case rel => exact ⟨k + 1, by omega, by go_num, by rw [e1]; go_num, HB2.out⟩
        case measure => simp [intOf]; omega
    · have HC : Hid (cn f 20 = cn f k) := by
        have e : k = 20 := by omega
        unfold Hid
        rw [e]
      have HW : Hid (Below w.heap.size w wr) := hB
      clear hB
      generalize cn f k = c at *
      go_wp2
      clear hk hlt
      go_loopw [13] (fun i wr => ∃ p : Nat, p ≤ 5 ∧ i = .int .i64 p ∧ Below w.heap.size w wr) (fun i _ => 5 - (intOf i).toNat)
      case atStart => exact ⟨0, by omega, rfl, HW.out⟩
      case round =>
        obtain ⟨p, hp, rfl, hB⟩ := hrel
        have HP : Hid (Below w.heap.size w wr) := hB
        clear hB
        by_cases hlt : p < 5
        · go_wp2
          have HLT : Hid (p < 5) := hlt
          clear hlt
          rename ((p : Int) < 5) => h5
          clear h5
          go_loopw [14] (fun i wr => ∃ q : Nat, q ≤ 4 ∧ i = .int .i64 q ∧ Below w.heap.size w wr) (fun i _ => 4 - (intOf i).toNat)
          case atStart => exact ⟨0, by omega, rfl, HP.out⟩
          case round =>
            obtain ⟨q, hq, rfl, hB⟩ := hrel
            by_cases hlq : q < 4
            · have CO : Hid (Calls _ _ _ _ _) := (HT.out.below hB).of_ (p : Int) (q : Int)
              have HQ : Hid (Below w.heap.size w wr) := hB
              clear hB
              go_wp2_with fail
              refine CO.out.mono ?_
              rintro e w1 ⟨i, t, e', rfl, hO, hB1⟩
              obtain ⟨rfl, hc2⟩ := ofb_in HLT.out hlq hO HB.out HT.out.ok
              have B2 : Below w.heap.size w w1 := HQ.out.trans (hB1.mono HQ.out.size)
              have hl := (HM.out.below B2).has p q HLT.out hlq
              have HB2 : Hid (Below w.heap.size w w1) := B2
              clear CO hO hB1 B2
              rcases hc2 with ⟨k, rfl, rfl, e0, hk⟩ | ⟨rfl, rfl, e0⟩
              · rw [e0] at hl
                clear e0
                go_wp2
                go_roundw
                case rel => exact ⟨q + 1, by omega, by go_num, HB2.out⟩
                case measure => simp [intOf]; omega
              · rw [e0] at hl
                clear e0
                go_wp2
                go_roundw
                case rel => exact ⟨q + 1, by omega, by go_num, HB2.out⟩
                case measure => simp [intOf]; omega
            · obtain rfl : q = 4 := by omega
              have HQ : Hid (Below w.heap.size w wr) := hB
              clear hB
              go_wp2
              have hlt := HLT.out
              go_roundw
              case rel => exact ⟨p + 1, by omega, by go_num, HQ.out⟩
              case measure => simp [intOf]; omega
        · obtain rfl : p = 5 := by omega
          have CC : Hid (Calls _ _ _ _ _) := (HT.out.below HP.out).count
          have CH : Hid (Calls _ _ _ _ _) := (HT.out.below HP.out).held
          rw [HC.out] at CC CH
          go_wp2_with fail
          refine CC.out.mono ?_
          rintro e w1 ⟨rfl, hw⟩
          obtain rfl := hw.symm
          clear CC hw
          go_wp2_with fail
          refine CH.out.mono ?_
          rintro e w1 ⟨a, cap, rfl, hB1⟩
          have HB2 : Hid (Below w.heap.size w w1) := HP.out.trans (hB1.mono HP.out.size)
          clear CH hB1
          go_wp2
          go_ret
          exact ⟨rfl, HB2.out⟩
end
end Go.Proofs.YtkbpnkjjmipjfaaGreat.Az
namespace Go.Proofs.YtkbpnkjjmipjfaaGreat.Az
open B P Go.ChangeShapes Go.WideShapes Go.ChangeAt Go.RowKit
set_option linter.unusedVariables false
set_option maxRecDepth 8192

structure Rd (w W : World) (z : Pz) (hb cb n y1 y2 : Nat) (p q r : Nat) (Y : Nat → Prop) (f : Rs) (hs hm : Int → Int → Int) (ct cm : Int → Int) : Prop where
  T : Tt Y w W z (E.hwOf us) PU 6 20 f
  bk : Bk f hs ct
  M : Bm W hb cb n hm cm
  k1 : B.Blk W y1 72 [.int .i64 (p : Int), .int .i64 (q : Int)]
  k2 : B.Blk W y2 72 [.int .i64 (p : Int), .int .i64 (r : Int)]
  nY : ¬ Y hb ∧ ¬ Y cb ∧ ¬ Y y1 ∧ ¬ Y y2
  ne : hb ≠ cb ∧ y1 ≠ hb ∧ y1 ≠ cb ∧ y2 ≠ hb ∧ y2 ≠ cb
  lo : w.heap.size ≤ hb ∧ w.heap.size ≤ cb
section
variable {w W W' : World} {z : Pz} {hb cb n y1 y2 p q r : Nat} {Y Y' : Nat → Prop} {f f' : Rs} {hs hs' hm : Int → Int → Int} {ct ct' cm : Int → Int}
theorem Rd.below (K : Rd w W z hb cb n y1 y2 p q r Y f hs hm ct cm) (k : Below W.heap.size W W') : Rd w W' z hb cb n y1 y2 p q r Y f hs hm ct cm :=
  ⟨K.T.below k, K.bk, K.M.below k, K.k1.of_eq (k.block _ K.k1.lt), K.k2.of_eq (k.block _ K.k2.lt), K.nY, K.ne, K.lo⟩
theorem Rd.turn (K : Rd w W z hb cb n y1 y2 p q r Y f hs hm ct cm) (T' : Tt Y' w W' z (E.hwOf us) PU 6 20 f') (k : Kp Y Y' W W') (B' : Bk f' hs' ct') : Rd w W' z hb cb n y1 y2 p q r Y' f' hs' hm ct' cm := by
  obtain ⟨n1, n2, n3, n4⟩ := K.nY
  have out : ∀ x, x < W.heap.size → ¬ Y x → ¬ Y' x := fun x hx hn hy => by
    rcases k.new x hy with q | q
    · exact hn q
    · omega
  exact ⟨T', B', K.M.of_eq (k.block _ K.M.hlt n1) (k.block _ K.M.clt n2), K.k1.of_eq (k.block _ K.k1.lt n3), K.k2.of_eq (k.block _ K.k2.lt n4), ⟨out _ K.M.hlt n1, out _ K.M.clt n2, out _ K.k1.lt n3, out _ K.k2.lt n4⟩, K.ne, K.lo⟩
theorem Rd.sethas (K : Rd w W z hb cb n y1 y2 p q r Y f hs hm ct cm) (hn : n ≤ 1000) (a b : Nat) (ha : a < 5) (hb' : b < 4) (v : Int) : ∃ W', (Instr.mapUpdate 68 (.map (some hb)) (.agg #[.int .i64 (a : Int), .int .i64 (b : Int)]) (.int .i64 v)).run Tryz.prog W = .ok () W' ∧ Rd w W' z hb cb (n + 1) y1 y2 p q r Y f hs (up2 hm a b v) ct cm := by
  obtain ⟨W', hr, hM, hG⟩ := K.M.sethas (by unfold maxLen; omega) K.ne.1 a b ha hb' v
  exact ⟨W', hr, K.T.other hG (fun k hk => by cases hk; exact ⟨K.lo.1, K.nY.1⟩), K.bk, hM, K.k1.kept hG (some_ne K.ne.2.1), K.k2.kept hG (some_ne K.ne.2.2.2.1), K.nY, K.ne, K.lo⟩
theorem Rd.setcnt (K : Rd w W z hb cb n y1 y2 p q r Y f hs hm ct cm) (hn : n ≤ 1000) (i : Nat) (hi : i < 20) (v : Int) : ∃ W', (Instr.mapUpdate 69 (.map (some cb)) (.int .i64 (i : Int)) (.int .i64 v)).run Tryz.prog W = .ok () W' ∧ Rd w W' z hb cb (n + 1) y1 y2 p q r Y f hs hm ct (up1 cm i v) := by
  obtain ⟨W', hr, hM, hG⟩ := K.M.setcnt (by unfold maxLen; omega) K.ne.1 i (by omega) v
  exact ⟨W', hr, K.T.other hG (fun k hk => by cases hk; exact ⟨K.lo.2, K.nY.2.1⟩), K.bk, hM, K.k1.kept hG (some_ne K.ne.2.2.1), K.k2.kept hG (some_ne K.ne.2.2.2.2), K.nY, K.ne, K.lo⟩
theorem Rd.kept (K : Rd w W z hb cb n y1 y2 p q r Y f hs hs ct ct) : Calls Tryz.prog 28 #[.pointer (some ⟨z.a, 0, none⟩), .pointer (some ⟨z.s, 0, none⟩), .map (some hb), .map (some cb)] W fun e W' => e = .returned (.bool true) ∧ Rd w W' z hb cb n y1 y2 p q r Y f hs hs ct ct := by
  refine (kept_ok K.T K.bk K.M).mono ?_
  rintro e W' ⟨rfl, h⟩
  exact ⟨rfl, K.below h⟩
theorem Rd.ctl (K : Rd w W z hb cb n y1 y2 p q r Y f hs hm ct cm) {i : Nat} {x : Rc} (h : f i = some x) : i < 20 ∧ ct i = (x.ps.length : Nat) ∧ 0 < x.ps.length ∧ x.ps.length ≤ 16 := by
  refine ⟨K.T.ok.lt h, by rw [K.bk.ct, h]; rfl, List.length_pos_iff.2 (K.T.ok.ne i x h), K.T.ok.len h⟩
theorem Rd.make (K : Rd w W z hb cb n y1 y2 p q r Y f hs hs ct ct) (hp : p < 5) (hq : q < 4) : Calls Tryz.prog 25 #[.pointer (some ⟨z.a, 0, none⟩), .int .i64 (p : Int), .int .i64 (q : Int)] W fun e W' =>
    (∃ i j, e = .returned (.tuple #[.int .i64 i, .int .i64 171]) ∧ hs p q = ((j : Nat) : Int) + 1 ∧ j < 20 ∧ ∃ Y', Rd w W' z hb cb n y1 y2 p q r Y' f hs hs ct ct) ∨
    (∃ i, e = .returned (.tuple #[.int .i64 i, .int .i64 4]) ∧ hs p q = 0 ∧ ∃ Y', Rd w W' z hb cb n y1 y2 p q r Y' f hs hs ct ct) ∨
    (∃ i : Nat, e = .returned (.tuple #[.int .i64 (i : Int), .int .i64 0]) ∧ hs p q = 0 ∧ ct i = 0 ∧ i < 20 ∧ ∃ Y' f', Rd w W' z hb cb n y1 y2 p q r Y' f' (up2 hs p q ((i : Int) + 1)) hs (up1 ct i 1) ct) := by
  have hfew := K.T.few (by omega) (by omega)
  have h16 : pn 6 * PU.q 6 = 16 := by decide
  refine (Make_ok K.T (by omega) p q).mono ?_
  rintro e W' ⟨i, te, e', f', rfl, hte, hM, Y', T', k'⟩
  rcases K.bk.make K.T.ok hM ⟨by omega, by omega⟩ ⟨by omega, by omega⟩ with ⟨h1, rfl, rfl⟩ | ⟨h1, h2, rfl, rfl⟩ | ⟨h1, _, rfl, h3, h4, h5⟩
  · obtain ⟨j, x, e1, e2, _⟩ := K.bk.some_ h1
    exact Or.inl ⟨i, j, rfl, e1, K.T.ok.lt e2, Y', K.turn T' k' K.bk⟩
  · rcases hte with h3 | ⟨rfl, _⟩
    · exact absurd h3 h2
    · exact Or.inr (Or.inl ⟨i, rfl, h1, Y', K.turn T' k' K.bk⟩)
  · obtain ⟨i, rfl⟩ := Int.eq_ofNat_of_zero_le h3
    have hi : i < 20 := by
      rcases Nat.lt_or_ge i 20 with q | q
      · exact q
      · have h6 := h5.ct i
        have h7 : up1 ct i 1 i = 1 := if_pos rfl
        rw [T'.ok.far i q] at h6
        rw [h7] at h6
        exact absurd h6 (by decide)
    exact Or.inr (Or.inr ⟨i, rfl, h1, h4, hi, Y', f', K.turn T' k' h5⟩)
theorem Rd.share (K : Rd w W z hb cb n y1 y2 p q r Y f hs hs ct ct) (hr : r < 4) {i : Nat} {x : Rc} (hi : f i = some x) (hx : x.pg = p) : Calls Tryz.prog 26 #[.pointer (some ⟨z.a, 0, none⟩), .int .i64 (i : Int), .int .i64 (r : Int)] W fun e W' =>
    (∃ j, e = .returned (.int .i64 171) ∧ hs p r = ((j : Nat) : Int) + 1 ∧ j < 20 ∧ ∃ Y', Rd w W' z hb cb n y1 y2 p q r Y' f hs hs ct ct) ∨
    (e = .returned (.int .i64 0) ∧ hs p r = 0 ∧ ∃ Y' f', Rd w W' z hb cb n y1 y2 p q r Y' f' (up2 hs p r ((i : Int) + 1)) hs (up1 ct i (ct i + 1)) ct) := by
  have hlt := K.T.ok.lt hi
  refine (Share_ok K.T (id := (i : Int)) ⟨by omega, by omega⟩ r).mono ?_
  rintro e W' ⟨e', f', rfl, hS, Y', T', k'⟩
  rcases K.bk.share K.T.ok hi hS ⟨by omega, by omega⟩ with ⟨h1, rfl, rfl⟩ | ⟨h1, rfl, h2⟩
  · rw [hx] at h1
    obtain ⟨j, x', e1, e2, _⟩ := K.bk.some_ h1
    exact Or.inl ⟨j, rfl, e1, K.T.ok.lt e2, Y', K.turn T' k' K.bk⟩
  · rw [hx] at h1 h2
    exact Or.inr ⟨rfl, h1, Y', f', K.turn T' k' h2⟩
theorem Rd.leave (K : Rd w W z hb cb n y1 y2 p q r Y f hs hs ct ct) {i : Nat} {x : Rc} (hi : f i = some x) (hx : x.pg = p) (hq : (q : Int) ∈ x.ps) : Calls Tryz.prog 27 #[.pointer (some ⟨z.a, 0, none⟩), .int .i64 (i : Int), .int .i64 (q : Int)] W fun e W' =>
    e = .returned (.tuple #[.int .i64 (ct i - 1), .int .i64 0]) ∧ ∃ Y' f', Rd w W' z hb cb n y1 y2 p q r Y' f' (up2 hs p q 0) hs (up1 ct i (ct i - 1)) ct := by
  have hlt := K.T.ok.lt hi
  refine (Leave_ok K.T (id := (i : Int)) ⟨by omega, by omega⟩ q).mono ?_
  rintro e W' ⟨m, e', f', rfl, hL, Y', T', k'⟩
  obtain ⟨rfl, rfl, h3, _⟩ := K.bk.leave K.T.ok hi hq hL
  rw [hx] at h3
  exact ⟨rfl, Y', f', K.turn T' k' h3⟩
end
def Lp (w : World) (z : Pz) (hb cb k : Nat) (W : World) : Prop := ∃ Y f hs ct, Tt Y w W z (E.hwOf us) PU 6 20 f ∧ Bk f hs ct ∧ Bm W hb cb (2 * k) hs ct ∧ (¬ Y hb ∧ ¬ Y cb) ∧ hb ≠ cb ∧ (w.heap.size ≤ hb ∧ w.heap.size ≤ cb)
section
variable {w W : World} {z : Pz} {hb cb n k y1 y2 p q r : Nat} {Y : Nat → Prop} {f : Rs} {hs : Int → Int → Int} {ct : Int → Int}
theorem Rd.lp (K : Rd w W z hb cb n y1 y2 p q r Y f hs hs ct ct) (hn : n ≤ 2 * k) : Lp w z hb cb k W := ⟨Y, f, hs, ct, K.T, K.bk, K.M.more hn, ⟨K.nY.1, K.nY.2.1⟩, K.ne.1, K.lo⟩
theorem Lp.rd (K : Lp w z hb cb k W) (p q r : Nat) : ∃ Y f hs ct, Rd w ((W.alloc (.cells #[.int .i64 (p : Int), .int .i64 (q : Int)] 72)).alloc (.cells #[.int .i64 (p : Int), .int .i64 (r : Int)] 72)) z hb cb (2 * k) W.heap.size (W.heap.size + 1) p q r Y f hs hs ct ct := by
  obtain ⟨Y, f, hs, ct, T, b, M, nY, ne, lo⟩ := K
  have hs1 : (W.alloc (.cells #[.int .i64 (p : Int), .int .i64 (q : Int)] 72)).heap.size = W.heap.size + 1 := by simp
  have k1 : Below W.heap.size W (W.alloc (.cells #[.int .i64 (p : Int), .int .i64 (q : Int)] 72)) := (Below.refl _ _).alloc (Nat.le_refl _) _
  have k2 : Below (W.heap.size + 1) (W.alloc (.cells #[.int .i64 (p : Int), .int .i64 (q : Int)] 72)) ((W.alloc (.cells #[.int .i64 (p : Int), .int .i64 (q : Int)] 72)).alloc (.cells #[.int .i64 (p : Int), .int .i64 (r : Int)] 72)) := (Below.refl _ _).alloc (by omega) _
  have b1 := B.blk_new W [.int .i64 (p : Int), .int .i64 (q : Int)] 72
  have b2 := B.blk_new (W.alloc (.cells #[.int .i64 (p : Int), .int .i64 (q : Int)] 72)) [.int .i64 (p : Int), .int .i64 (r : Int)] 72
  rw [hs1] at b2
  have kk := k1.trans (k2.mono (by omega))
  have h1 := M.hlt
  have h2 := M.clt
  exact ⟨Y, f, hs, ct, T.below kk, b, M.below kk, b1.of_eq (k2.block _ (by omega)), b2, ⟨nY.1, nY.2, fun h => by have := T.lt _ h; omega, fun h => by have := T.lt _ h; omega⟩, ⟨ne, by omega, by omega, by omega, by omega⟩, lo⟩
end
end Go.Proofs.YtkbpnkjjmipjfaaGreat.Az
