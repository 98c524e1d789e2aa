/- replace of package vma; no condition but those named. -/
import Derived.Test.YtmhfgfgiiinpjabWg
namespace Go.Proofs.Ytmhfgfgiiinpjab.V
open Go.ChangeShapes Go.WideShapes Go.ChangeAt Go.RowKit
set_option linter.unusedVariables false
set_option maxRecDepth 8192

theorem Rn.lt {w : World} {ao : Option Addr} {l : List Rg} (h : Rn w ao l) (hl : l ≠ []) : ∀ b off, ao = some ⟨b, off, none⟩ → b < w.heap.size := fun b off e => by
  obtain ⟨b', off', e', hb, _⟩ := h.some' (List.length_pos_iff.2 hl)
  rw [e] at e'
  cases e'
  exact hb
/-- A list and an error that a call answers; the list is the call's own. -/
def An (w : World) (a : List Rg × Int) (e : Ending) (w' : World) : Prop := ∃ v, e = .returned (.tuple #[v, .int .i64 a.2]) ∧ Rw w' w.heap.size v a.1 ∧ Below w.heap.size w w'
theorem An.no {w w' : World} (x : Int) (h : Below w.heap.size w w') : An w ([], x) (.returned (.tuple #[.slice none 0 0, .int .i64 x])) w' := ⟨_, rfl, Rw.nil _ _, h⟩
theorem An.from {w w1 w' : World} {a : List Rg × Int} {e : Ending} (h : An w1 a e w') (k : Below w.heap.size w w1) : An w a e w' := by
  obtain ⟨v, h1, h2, h3⟩ := h
  exact ⟨v, h1, h2.mono k.size, bs k h3⟩
theorem Jn.below {w : World} {B : Nat} {v v' : Value} {l : List Rg} {w' : World} (h : Jn w B v l v' w') {w0 : World} (h0 : Below w0.heap.size w0 w) (hv : ∀ g, v.ownBlock = some g → w0.heap.size ≤ g) : Below w0.heap.size w0 w' := h0.grown h.2.1 h0.size (fun k e => hv k e)
theorem Jn.own {w : World} {B : Nat} {v v' : Value} {l : List Rg} {w' : World} (h : Jn w B v l v' w') {n : Nat} (hn : n ≤ w.heap.size) (hv : ∀ g, v.ownBlock = some g → n ≤ g) : ∀ g, v'.ownBlock = some g → n ≤ g := fun g hg => (h.2.2 g hg).elim (hv g) (fun q => Nat.le_trans hn q)
set_option maxHeartbeats 2000000 in
theorem replace_ok {w : World} {ao : Option Addr} {cap : Nat} {l : List Rg} (h : Rn w ao l) (hF : Fm l) (hl : l.length ≤ 1024) (hcap : l.length ≤ cap) {s n : Int} (hp : pgs s n) {ai : Option Addr} {ci : Nat} {ins : List Rg} (hi : Rn w ai ins) (hci : ins.length ≤ ci) (hiF : Fm ins) (hin : ∀ r ∈ ins, s ≤ r.p ∧ r.e ≤ s + n) (hil : ins.length ≤ 1) :
    Calls Try.prog 19 #[.slice ao l.length cap, .agg #[.int .i64 s, .int .i64 n], .slice ai ins.length ci] w (An w (ans (wth l s n ins))) := by
  have hp' := hp
  unfold pgs at hp
  obtain ⟨hp1, hp2, hp3, hp4⟩ := hp
  have C1 : Hid (∀ W, Below w.heap.size w W → Calls Try.prog 23 #[.slice ao l.length cap, .int .i64 s] W fun e w' => ∃ a1 c1 a2 c2, e = .returned (.tuple #[.slice a1 (btw l 0 s).length c1, .slice a2 (btw l s 1048576).length c2]) ∧ Rn w' a1 (btw l 0 s) ∧ Rn w' a2 (btw l s 1048576) ∧ (btw l 0 s).length ≤ c1 ∧ (btw l s 1048576).length ≤ c2 ∧ Below W.heap.size W w') := fun W hW => split_ok (h.below hW) hF.rs hcap ⟨by omega, by omega⟩
  have C2 : Hid (∀ W, Below w.heap.size w W → Calls Try.prog 23 #[.slice ao l.length cap, .int .i64 (s + n)] W fun e w' => ∃ a1 c1 a2 c2, e = .returned (.tuple #[.slice a1 (btw l 0 (s + n)).length c1, .slice a2 (btw l (s + n) 1048576).length c2]) ∧ Rn w' a1 (btw l 0 (s + n)) ∧ Rn w' a2 (btw l (s + n) 1048576) ∧ (btw l 0 (s + n)).length ≤ c1 ∧ (btw l (s + n) 1048576).length ≤ c2 ∧ Below W.heap.size W w') := fun W hW => split_ok (h.below hW) hF.rs hcap ⟨by omega, by omega⟩
  have L1 : (btw l 0 s).length ≤ 1024 := Nat.le_trans (btw_le l 0 s) hl
  have L2 : (btw l (s + n) 1048576).length ≤ 1024 := Nat.le_trans (btw_le l (s + n) 1048576) hl
  have L3 : (jo (btw l 0 s) ins).length ≤ 1025 := by have := fold_len ins (btw l 0 s); unfold jo; omega
  have F1 : Fm (btw l 0 s) := btw_fm hF 0 s
  have F2 : Fm (btw l (s + n) 1048576) := btw_fm hF _ _
  have F3 : Fm (jo (btw l 0 s) ins) := (fold_ok F1 hiF.rs (fun a ha r hr => by have := btw_in ha; have := hin r hr; omega)).1
  have HJ : Hid (wth l s n ins = jo (jo (btw l 0 s) ins) (btw l (s + n) 1048576)) := wth_jo hF
  have D1 : Hid (∀ W ax cx ty, Below w.heap.size w W → Rn W ax (btw l 0 s) → ∃ v' w', (Builtin.append_ #[23, 23] ty #[.slice none 0 0, .slice ax (btw l 0 s).length cx]).run Try.prog W = .ok v' w' ∧ Jn W w.heap.size (.slice none 0 0) (btw l 0 s) v' w') := fun W ax cx ty hW hR => by
    have := app_jn (w := W) (B := w.heap.size) (v := .slice none 0 0) (l := []) (cx := cx) (Rw.nil _ _) hR hW.size (by simp; omega) ty
    exact this
  have D2 : Hid (∀ W v, Below w.heap.size w W → Rw W w.heap.size v (btw l 0 s) → Calls Try.prog 24 #[v, .slice ai ins.length ci] W fun e w' => ∃ v', e = .returned v' ∧ Jn W w.heap.size v (jo (btw l 0 s) ins) v' w') := fun W v hW hR => join_ok hR hW.size (hi.below hW) (fun h0 b off e q => by
    have h1 := hi.lt h0 b off e
    have h2 := (row_lt hR b q).1
    omega) F1.rs.ok hiF hci (by omega)
  have D3 : Hid (∀ W v ax cx, Below w.heap.size w W → Rw W w.heap.size v (jo (btw l 0 s) ins) → Rn W ax (btw l (s + n) 1048576) → (∀ b off, ax = some ⟨b, off, none⟩ → btw l (s + n) 1048576 ≠ [] → v.ownBlock ≠ some b) → (btw l (s + n) 1048576).length ≤ cx → Calls Try.prog 24 #[v, .slice ax (btw l (s + n) 1048576).length cx] W fun e w' => ∃ v', e = .returned v' ∧ Jn W w.heap.size v (wth l s n ins) v' w') := fun W v ax cx hW hR hA hne hcx => by
    rw [HJ.out]
    exact join_ok hR hW.size hA (fun h0 b off e => hne b off e h0) F3.rs.ok F2 hcx (by omega)
  have HB : Hid (∀ o : Obj, Below w.heap.size w (w.alloc o)) := fun o => below1 w o
  have HZ : Hid (Rn w ai ins) := hi
  clear h hF hi hiF hin hp' F1 F2 F3 HJ L3
  generalize wth l s n ins = res at *
  generalize jo (btw l 0 s) ins = mid at *
  generalize btw l 0 s = ah at *
  generalize btw l s 1048576 = x1 at *
  generalize btw l 0 (s + n) = x2 at *
  generalize btw l (s + n) 1048576 = be at *
  go_enter Try.func19, Try.ntmps19
  go_wp2_with fail
  refine (C1.out _ (HB.out _)).mono ?_
  rintro e w1 ⟨a1, c1, a2, c2, rfl, r1, r2, l1, l2, b1⟩
  have d0 := cell_at w #[.int .i64 s, .int .i64 n] 34 b1 0
  have d1 := cell_at w #[.int .i64 s, .int .i64 n] 34 b1 1
  simp at d0 d1
  have HB1 : Hid (Below w.heap.size w w1) := bs (HB.out _) b1
  have HR1 : Hid (Rn w1 a1 ah) := r1
  clear r1 r2 b1
  go_wp2_with fail
  refine (C2.out _ HB1.out).mono ?_
  rintro e w2 ⟨a3, c3, a4, c4, rfl, r3, r4, l3, l4, b2⟩
  have HB2 : Hid (Below w.heap.size w w2) := bs HB1.out b2
  have HR2 : Hid (Rn w2 a1 ah) := HR1.out.below b2
  have HR4 : Hid (Rn w2 a4 be) := r4
  clear r3 r4 b2 d0 d1 HR1
  go_wp2_with (at_builtin; refine wpList_app rfl (.const (.slice none 0 0)) (.tmp 30) rfl _ _ rfl rfl (D1.out w2 a1 c1 _ HB2.out HR2.out) ?_; rintro v3 w3 hJ3; have HJ3 : Hid (Jn w2 w.heap.size (.slice none 0 0) ah v3 w3) := hJ3; have HB3 : Hid (Below w.heap.size w w3) := hJ3.below HB2.out (fun g hg => by cases hg); have HO3 : Hid (∀ g, v3.ownBlock = some g → w2.heap.size ≤ g) := hJ3.own (Nat.le_refl _) (fun g hg => by cases hg); clear hJ3)
  refine (D2.out w3 v3 HB3.out HJ3.out.1).mono ?_
  rintro e w4 ⟨v4, rfl, hJ4⟩
  have HO4 : Hid (∀ g, v4.ownBlock = some g → w2.heap.size ≤ g) := hJ4.own HJ3.out.2.1.size HO3.out
  have HB4 : Hid (Below w.heap.size w w4) := hJ4.below HB3.out (fun g hg => Nat.le_trans HB2.out.size (HO3.out g hg))
  have HR5 : Hid (Rn w4 a4 be) := by
    refine HR4.out.eq (Nat.le_trans HJ3.out.2.1.size hJ4.2.1.size) (fun b off e hb => ?_)
    rw [hJ4.2.1.block b (Nat.lt_of_lt_of_le hb HJ3.out.2.1.size) (fun q => by have := HO3.out b q.symm; omega), HJ3.out.2.1.block b hb (fun q => by cases q)]
  have HC5 : Hid (∀ b off, a4 = some ⟨b, off, none⟩ → be ≠ [] → v4.ownBlock ≠ some b) := fun b off e h0 q => by
    have := HO4.out b q
    have := HR4.out.lt h0 b off e
    omega
  have HR6 : Hid (Rw w4 w.heap.size v4 mid) := hJ4.1
  clear hJ4
  go_wp2_with fail
  refine (D3.out w4 v4 a4 c4 HB4.out HR6.out HR5.out HC5.out l4).mono ?_
  rintro e w5 ⟨v5, rfl, hJ5⟩
  have HB5 : Hid (Below w.heap.size w w5) := hJ5.below HB4.out (fun g hg => Nat.le_trans HB2.out.size (HO4.out g hg))
  obtain ⟨a5, c5, rfl, _⟩ := hJ5.1.rn
  have HR7 : Hid (Rw w5 w.heap.size (.slice a5 res.length c5) res) := hJ5.1
  clear hJ5
  by_cases hlen : 1024 < res.length
  · have hd : decide ((1024 : Int) < (res.length : Int)) = true := by simp; omega
    have HA : Hid (ans res = ([], 3)) := if_pos hlen
    go_wp2
    go_ret2
    show An w (ans res) _ _
    rw [HA.out]
    exact An.no 3 HB5.out
  · have hd : decide ((1024 : Int) < (res.length : Int)) = false := by simp; omega
    have HA : Hid (ans res = (res, 0)) := if_neg hlen
    go_wp2
    go_ret2
    show An w (ans res) _ _
    rw [HA.out]
    exact ⟨_, rfl, HR7.out, HB5.out⟩
end Go.Proofs.Ytmhfgfgiiinpjab.V
