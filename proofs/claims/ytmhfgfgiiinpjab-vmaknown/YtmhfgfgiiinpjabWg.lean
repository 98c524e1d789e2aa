/- join and replace of package vma; no condition but those named. -/
import Derived.Test.YtmhfgfgiiinpjabWf
namespace Go.Proofs.Ytmhfgfgiiinpjab.V
open Go.ChangeShapes Go.WideShapes Go.ChangeAt Go.RowKit
set_option linter.unusedVariables false
set_option maxRecDepth 8192

theorem rcs_setN (l : List Rg) (a : Rg) (x : Int) : (rcs (l ++ [a])).set (l.length * 3 + 1) (.int .i64 x) = rcs (l ++ [⟨a.p, x, a.m⟩]) := by
  rw [rcs_append, rcs_append, List.set_append_right _ _ (by rw [rcs_len]; omega), rcs_len, show l.length * 3 + 1 - l.length * 3 = 1 by omega]
  rfl
theorem Rw.setN {w : World} {base g cap n : Nat} {l : List Rg} {a : Rg} (h : Rw w base (.slice (some ⟨g, 0, none⟩) (n + 1) cap) (l ++ [a])) (hn : l.length = n) (x : Int) : Rw (w.setCell ⟨g, n * 3 + 1, none⟩ (.int .i64 x)) base (.slice (some ⟨g, 0, none⟩) (n + 1) cap) (l ++ [⟨a.p, x, a.m⟩]) ∧ w.grownBy (w.setCell ⟨g, n * 3 + 1, none⟩ (.int .i64 x)) (some g) := by
  subst hn
  unfold Rw at *
  rw [List.length_append, List.length_singleton] at *
  have := World.ownsRow.stored h (l.length * 3 + 1) (.int .i64 x)
  rw [rcs_setN] at this
  exact this
theorem wpList_app {w : World} {ops : Array Oper} {rest : List Oper} {o : Oper} {a : Act} {Q : Exit → Act → World → Prop} {R : Value → World → Prop} (hgd : o.guard = none) (s x : Operand)
    (ho : o.op = .call { callee := .builtin .append, args := #[s, x], argTypes := #[23, 23] }) (vs vx : Value) (hs : a.eval s = vs) (hx : a.eval x = vx)
    (hr : ∃ v' w', (Builtin.append_ #[23, 23] o.type #[vs, vx]).run Try.prog w = .ok v' w' ∧ R v' w') (h : ∀ v' w', R v' w' → wpList Try.prog ops Q rest (a.put o.dst v') w') : wpList Try.prog ops Q (o :: rest) a w :=
  wpList_plain hgd fun _ hK => by
    obtain ⟨v', w', hr, hR⟩ := hr
    unfold Oper.wp execOp
    simp only [ho, resolve, invoke, builtin, Sem.run_bind, Sem.run_pure, Result.andThen_ok, List.map_toArray, List.map_cons, List.map_nil, hs, hx, hr]
    exact hK _ _ (h v' w' hR)
/-- What a call leaves that puts regions behind a row of its own. -/
def Jn (w : World) (B : Nat) (v : Value) (l : List Rg) (v' : Value) (w' : World) : Prop := Rw w' B v' l ∧ w.grownBy w' v.ownBlock ∧ ∀ g, v'.ownBlock = some g → v.ownBlock = some g ∨ w.heap.size ≤ g
theorem app_jn {w : World} {B : Nat} {v : Value} {l : List Rg} (h : Rw w B v l) {ax : Option Addr} {cx : Nat} {k : List Rg} (hk : Rn w ax k) (hb : B ≤ w.heap.size) (hle : l.length + k.length ≤ 100000) (ty : TypeId) :
    ∃ v' w', (Builtin.append_ #[23, 23] ty #[v, .slice ax k.length cx]).run Try.prog w = .ok v' w' ∧ Jn w B v (l ++ k) v' w' := app_own h hk hb (by omega) ty
theorem grown_of {w w' : World} (h : Below w.heap.size w w') (row : Option Nat) : w.grownBy w' row := ⟨h.os, h.tape, h.output, h.size, fun k hk _ => h.block k hk⟩
theorem Jn.from {w W : World} {B : Nat} {v : Value} {l : List Rg} {v' : Value} {w' : World} (h : Jn W B v l v' w') (k : w.grownBy W v.ownBlock) : Jn w B v l v' w' := ⟨h.1, k.trans h.2.1, fun g hg => (h.2.2 g hg).imp id (fun q => Nat.le_trans k.size q)⟩
theorem Rn.apart {w w' : World} {g : Nat} {ao : Option Addr} {l : List Rg} (h : Rn w ao l) (k : w.grownBy w' (some g)) (ha : ∀ b off, ao = some ⟨b, off, none⟩ → b ≠ g) : Rn w' ao l :=
  h.eq k.size (fun b off e hb => k.block b hb (fun q => ha b off e (by injection q)))
set_option maxHeartbeats 2000000 in
theorem join_ok {w : World} {v : Value} {l k : List Rg} {B : Nat} (h : Rw w B v l) (hB : B ≤ w.heap.size) {ax : Option Addr} {cx : Nat} (hk : Rn w ax k) (hap : k ≠ [] → ∀ b off, ax = some ⟨b, off, none⟩ → v.ownBlock ≠ some b) (hl : ∀ r ∈ l, r.Ok) (hF : Fm k) (hcx : k.length ≤ cx) (hle : l.length + k.length ≤ 100000) :
    Calls Try.prog 24 #[v, .slice ax k.length cx] w fun e w' => ∃ v', e = .returned v' ∧ Jn w B v (jo l k) v' w' := by
  have HA : Hid (∀ W ty, Below w.heap.size w W → ∃ v' w', (Builtin.append_ #[23, 23] ty #[v, .slice ax k.length cx]).run Try.prog W = .ok v' w' ∧ Jn w B v (l ++ k) v' w') := fun W ty hW => by
    obtain ⟨v', w', h1, h2⟩ := app_jn (cx := cx) (h.below hW) (hk.below hW) (Nat.le_trans hB hW.size) hle ty
    exact ⟨v', w', h1, h2.from (grown_of hW _)⟩
  rcases snoc_cases l with e | ⟨l0, a, e⟩
  · subst e
    obtain ⟨ao, cap, rfl, _⟩ := h.rn
    have HJ : Hid (jo [] k = k) := jo_none hF
    clear h hk hap hl hF
    rw [HJ.out]
    have hne : Nonempty (Idx (Below w.heap.size w)) := ⟨⟨w, Below.refl _ _⟩⟩
    go_enter Try.func24, Try.ntmps24
    go_wp2_with fail
    refine wp_region_cls (Below w.heap.size w) (by kernel_rfl) (by kernel_rfl) ((Below.refl _ _).drew) ?_
    repeat (go_big_quiet_step (fail))
    refine wpQuiet_nil ?_
    rintro w2 ⟨⟨_, hS2⟩, rfl⟩
    have HB2 : Hid (Below w.heap.size w _) := hS2
    rename_i w2
    clear hne
    go_wp2_with (at_builtin; refine wpList_app rfl (.tmp 40) (.tmp 41) rfl _ _ rfl rfl (HA.out _ _ HB2.out) ?_; rintro v2 w2 hJ2; have HJ2 : Hid (Jn w B (.slice ao 0 cap) ([] ++ k) v2 w2) := hJ2; clear hJ2)
    go_ret
    exact ⟨v2, rfl, HJ2.out⟩
  · subst e
    have hln : (l0 ++ [a]).length = l0.length + 1 := by simp
    rcases h.form with ⟨_, e⟩ | ⟨g, cap, rfl, hg1, hg2, hlen, hcells, hfr⟩
    · simp at e
    obtain ⟨ao, cp, ev, hrn, _⟩ := h.rn
    rw [hln] at ev hlen h
    rw [hln] at HA ⊢
    cases ev
    obtain ⟨n, hn⟩ : ∃ n, l0.length = n := ⟨_, rfl⟩
    rw [hn] at hlen HA h ⊢
    have hn3 : n < 100001 := by rw [hln] at hle; omega
    have hc := hrn.at' (i := n) (by rw [hln]; omega)
    obtain ⟨b, off, e, hbl, q0, q1, q2⟩ := hc
    cases e
    have hla : (l0 ++ [a])[n]'(by rw [hln]; omega) = a := by simp [← hn]
    rw [hla] at q0 q1 q2
    rw [Nat.zero_add] at q0 q1 q2
    have hao : a.Ok := hl a (by simp)
    have hSet : Hid (∀ W (x : Int), Below w.heap.size w W → Rw (W.setCell ⟨g, n * 3 + 1, none⟩ (.int .i64 x)) B (.slice (some ⟨g, 0, none⟩) (n + 1) cap) (l0 ++ [⟨a.p, x, a.m⟩]) ∧ W.grownBy (W.setCell ⟨g, n * 3 + 1, none⟩ (.int .i64 x)) (some g)) := fun W x hW => Rw.setN (h.below hW) hn x
    obtain ⟨nn, hnn⟩ : ∃ nn, n + 1 = nn := ⟨_, rfl⟩
    rw [hnn] at hlen HA h hSet ⊢
    have ii1 : ((nn : Int) - 1) = (n : Int) := by omega
    have ii2 : (0 : Int) ≤ (n : Int) := Int.natCast_nonneg n
    have ii3 : (n : Int) < (nn : Int) := by omega
    have hne : Nonempty (Idx (Below w.heap.size w)) := ⟨⟨w, Below.refl _ _⟩⟩
    rcases k with _ | ⟨c, k'⟩
    · rw [jo_nil]
      rw [List.append_nil] at HA
      clear h hk hap hl hF hrn hcells hfr q0 q1 q2 hSet
      go_enter Try.func24, Try.ntmps24
      go_wp2_with fail
      refine wp_region_cls (Below w.heap.size w) (by kernel_rfl) (by kernel_rfl) ((Below.refl _ _).drew) ?_
      repeat (go_big_quiet_step (fail))
      refine wpQuiet_nil ?_
      rintro w2 ⟨⟨_, hS2⟩, rfl⟩
      have HB2 : Hid (Below w.heap.size w _) := hS2
      rename_i w2
      clear hne
      go_wp2_with (at_builtin; refine wpList_app rfl (.tmp 40) (.tmp 41) rfl _ _ rfl rfl (HA.out _ _ HB2.out) ?_; rintro v2 w2 hJ2; have HJ2 : Hid (Jn w B (.slice (some ⟨g, 0, none⟩) nn cap) (l0 ++ [a]) v2 w2) := hJ2; clear hJ2)
      go_ret
      exact ⟨v2, rfl, HJ2.out⟩
    · have hco : c.Ok := hF.head
      have hF' : Fm k' := hF.tail
      obtain ⟨bx, offx, rfl, hbx, x0, x1, x2⟩ := hk.at' (i := 0) (by simp)
      rw [Nat.zero_mul, Nat.add_zero] at x0 x1 x2
      simp only [List.getElem_cons_zero] at x0 x1 x2
      have hgx : bx ≠ g := fun q => hap (by simp) bx offx rfl (by rw [q]; rfl)
      have HRk : Hid (Rn w (some ⟨bx, offx, none⟩) (c :: k')) := hk
      have hJo1 : Hid (a.e = c.p → a.m = c.m → jo (l0 ++ [a]) (c :: k') = l0 ++ [⟨a.p, a.n + c.n, a.m⟩] ++ k') := fun h1 h2 => jo_one hF h1 h2
      have hJo2 : Hid (¬ (a.e = c.p ∧ a.m = c.m) → jo (l0 ++ [a]) (c :: k') = l0 ++ [a] ++ c :: k') := fun h1 => jo_two hF h1
      have hkl : (c :: k').length = k'.length + 1 := rfl
      rw [hkl] at hcx HA ⊢
      rw [hkl, hln] at hle
      have hsum := hao.pg
      have hsum2 := hco.pg
      unfold pgs at hsum hsum2
      obtain ⟨ap, an, am⟩ := a
      obtain ⟨cp, cn, cm⟩ := c
      simp only at q0 q1 q2 x0 x1 x2 hsum hsum2
      have HE : Hid (∀ W : World, Calls Try.prog 16 #[.agg #[.int .i64 ap, .int .i64 an, .int .u8 am], .agg #[.int .i64 cp, .int .i64 cn, .int .u8 cm]] W fun e w' => e = .returned (.bool (decide (ap + an = cp ∧ am = cm))) ∧ Below W.heap.size W w') := fun W => areOne_any ⟨ap, an, am⟩ ⟨cp, cn, cm⟩ (by simp only; omega) W
      have f0 : ∀ N : Idx (Below w.heap.size w), N.W.cell? ⟨g, n * 3, none⟩ = some (.int .i64 ap) := fun N => (N.h.cell (p := ⟨g, n * 3, none⟩) hg2).trans q0
      have f1 : ∀ N : Idx (Below w.heap.size w), N.W.cell? ⟨g, n * 3 + 1, none⟩ = some (.int .i64 an) := fun N => (N.h.cell (p := ⟨g, n * 3 + 1, none⟩) hg2).trans q1
      have f2 : ∀ N : Idx (Below w.heap.size w), N.W.cell? ⟨g, n * 3 + 2, none⟩ = some (.int .u8 am) := fun N => (N.h.cell (p := ⟨g, n * 3 + 2, none⟩) hg2).trans q2
      have f3 : ∀ N : Idx (Below w.heap.size w), N.W.cell? ⟨bx, offx, none⟩ = some (.int .i64 cp) := fun N => (N.h.cell (p := ⟨bx, offx, none⟩) hbx).trans x0
      have f4 : ∀ N : Idx (Below w.heap.size w), N.W.cell? ⟨bx, offx + 1, none⟩ = some (.int .i64 cn) := fun N => (N.h.cell (p := ⟨bx, offx + 1, none⟩) hbx).trans x1
      have f5 : ∀ N : Idx (Below w.heap.size w), N.W.cell? ⟨bx, offx + 2, none⟩ = some (.int .u8 cm) := fun N => (N.h.cell (p := ⟨bx, offx + 2, none⟩) hbx).trans x2
      have HQ : Hid (∀ W, Below w.heap.size w W → W.cell? ⟨g, n * 3 + 1, none⟩ = some (.int .i64 an) ∧ W.cell? ⟨bx, offx + 1, none⟩ = some (.int .i64 cn) ∧ W.frozen? ⟨g, n * 3 + 1, none⟩ = false) := fun W hW => ⟨f1 ⟨W, hW⟩, f4 ⟨W, hW⟩, (hW.frozen (p := ⟨g, n * 3 + 1, none⟩) hg2).trans (hfr _)⟩
      have HT : Hid (∀ W (x : Int) (aa : Option Addr) (cc : Nat) (ty : TypeId), Below w.heap.size w W → (∀ W', Rn W' (some ⟨bx, offx, none⟩) (⟨cp, cn, cm⟩ :: k') → Rn W' aa k') → ∃ v' w', (Builtin.append_ #[23, 23] ty #[.slice (some ⟨g, 0, none⟩) nn cap, .slice aa k'.length cc]).run Try.prog (W.setCell ⟨g, n * 3 + 1, none⟩ (.int .i64 x)).drew = .ok v' w' ∧ Jn w B (.slice (some ⟨g, 0, none⟩) nn cap) (l0 ++ [⟨ap, x, am⟩] ++ k') v' w') := fun W x aa cc ty hW ha => by
        obtain ⟨s1, s2⟩ := hSet.out W x hW
        have r := ha _ ((HRk.out.below hW).apart s2 (fun b off e => by cases e; exact hgx))
        obtain ⟨v', w', h1, h2⟩ := app_jn (w := (W.setCell ⟨g, n * 3 + 1, none⟩ (.int .i64 x)).drew) (cx := cc) s1 r (Nat.le_trans hB (Nat.le_trans hW.size s2.size)) (by simp; omega) ty
        exact ⟨v', w', h1, h2.from ((grown_of hW _).trans ⟨s2.os, s2.tape, s2.output, s2.size, s2.block⟩)⟩
      clear h hk hap hl hF hrn hcells hSet q0 q1 q2 x0 x1 x2 hfr hF'
      by_cases c1 : ap + an = cp ∧ am = cm
      · have hj := hJo1.out c1.1 c1.2
        simp only at hj
        rw [hj]
        have hd : decide (ap + an = cp ∧ am = cm) = true := decide_eq_true c1
        rw [hd] at HE
        clear hd hj c1 hJo1 hJo2
        obtain ⟨a2, s2, r2⟩ := slice_tail (some ⟨bx, offx, none⟩) (k'.length + 1) cx (by omega) hcx
        have HR2 : Hid (∀ W', Rn W' (some ⟨bx, offx, none⟩) (⟨cp, cn, cm⟩ :: k') → Rn W' a2 k') := fun W' h => r2 W' _ rfl h
        clear r2
        go_enter Try.func24, Try.ntmps24
        go_wp2_with fail
        refine wp_region_cls (Below w.heap.size w) (by kernel_rfl) (by kernel_rfl) ((Below.refl _ _).drew) ?_
        repeat (go_big_quiet_step ((go_at_call 16; exact cls (HE.out _) (fun _ _ h k => bs h k))))
        refine wpQuiet_nil ?_
        rintro w2 ⟨⟨_, hS2⟩, rfl⟩
        have HB2 : Hid (Below w.heap.size w _) := hS2
        rename_i w2
        obtain ⟨z1, z2, z3⟩ := HQ.out w2 HB2.out
        clear hne f0 f1 f2 f3 f4 f5
        go_wp2_with fail
        go_region
        go_wp2_with (at_builtin; refine wpList_app rfl (.tmp 40) (.tmp 41) rfl _ _ rfl rfl (HT.out w2 (an + cn) a2 _ _ HB2.out HR2.out) ?_; rintro v2 w3 hJ2; have HJ2 : Hid (Jn w B (.slice (some ⟨g, 0, none⟩) nn cap) (l0 ++ [⟨ap, an + cn, am⟩] ++ k') v2 w3) := hJ2; clear hJ2)
        go_ret
        exact ⟨v2, rfl, HJ2.out⟩
      · have hj := hJo2.out c1
        rw [hj]
        have hd : decide (ap + an = cp ∧ am = cm) = false := decide_eq_false c1
        rw [hd] at HE
        clear hd hj c1 hJo1 hJo2 HT
        go_enter Try.func24, Try.ntmps24
        go_wp2_with fail
        refine wp_region_cls (Below w.heap.size w) (by kernel_rfl) (by kernel_rfl) ((Below.refl _ _).drew) ?_
        repeat (go_big_quiet_step ((go_at_call 16; exact cls (HE.out _) (fun _ _ h k => bs h k))))
        refine wpQuiet_nil ?_
        rintro w2 ⟨⟨_, hS2⟩, rfl⟩
        have HB2 : Hid (Below w.heap.size w _) := hS2
        rename_i w2
        clear hne f0 f1 f2 f3 f4 f5
        go_wp2_with (at_builtin; refine wpList_app rfl (.tmp 40) (.tmp 41) rfl _ _ rfl rfl (HA.out _ _ HB2.out) ?_; rintro v2 w3 hJ2; have HJ2 : Hid (Jn w B (.slice (some ⟨g, 0, none⟩) nn cap) (l0 ++ [⟨ap, an, am⟩] ++ ⟨cp, cn, cm⟩ :: k') v2 w3) := hJ2; clear hJ2)
        go_ret
        exact ⟨v2, rfl, HJ2.out⟩
end Go.Proofs.Ytmhfgfgiiinpjab.V
