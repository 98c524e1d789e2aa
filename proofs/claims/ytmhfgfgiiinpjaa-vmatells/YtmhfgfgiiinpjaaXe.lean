/- The document's with, Put, Cut, Protect over regions: what they answer; no condition but the ranges that each theorem names. -/
import Derived.Test.YtmhfgfgiiinpjaaXb
import Derived.Test.YtmhfgfgiiinpjaaXd
namespace Go.Proofs.Ytmhfgfgiiinpjaa.V
open Go.ChangeShapes Go.WideShapes Go.ChangeAt Go.RowKit
set_option linter.unusedVariables false
set_option maxRecDepth 8192

theorem Rw.app {w : World} {B : Nat} {v : Value} {l : List Rg} (h : Rw w B v l) {ax : Option Addr} {cx : Nat} {k : List Rg} (hk : Rn w ax k) (hb : B ≤ w.heap.size) (hle : l.length + k.length ≤ 100000) (ty : TypeId) :
    ∃ v' w', (Builtin.append_ #[22, 22] ty #[v, .slice ax k.length cx]).run Try.prog w = .ok v' w' ∧ Jn w B v (l ++ k) v' w' := app_jn h hk hb hle ty
theorem Rw.as {w : World} {B : Nat} {v : Value} {l : List Rg} (h : Rw w B v l) : ∃ a cap, v = .slice a l.length cap ∧ Rn w a l := by
  obtain ⟨a, cap, e, hr, _⟩ := h.rn
  exact ⟨a, cap, e, hr⟩
set_option maxHeartbeats 2000000 in
theorem with_r {w : World} {ao : Option Addr} {cap : Nat} {l : List Rg} (h : Rn w ao l) (hF : Fm l) (hl : l.length ≤ 1024) {s n : Int} (hp : pgs s n) {ai : Option Addr} {ci : Nat} {ins : List Rg} (hi : Rn w ai ins) (hiF : Rs ins) (hin : ∀ r ∈ ins, s ≤ r.p ∧ r.e ≤ s + n) (hil : ins.length ≤ 1) :
    Calls Try.prog 42 #[.slice ao l.length cap, .agg #[.int .i64 s, .int .i64 n], .slice ai ins.length ci] w (An w (ans (wth l s n ins))) := by
  have hp' := hp
  unfold pgs at hp
  obtain ⟨hp1, hp2, hp3, hp4⟩ := hp
  obtain ⟨W0, hW0⟩ : ∃ W0, w.alloc (.cells #[.int .i64 s, .int .i64 n] 31) = W0 := ⟨_, rfl⟩
  have b0 : Below w.heap.size w W0 := by rw [← hW0]; exact below1 w _
  have C1 : Hid (∀ W, Below W0.heap.size W0 W → Calls Try.prog 41 #[.slice ao l.length cap, .int .i64 0, .int .i64 s] W fun e w' => ∃ v, e = .returned v ∧ Rw w' W.heap.size v (btw l 0 s) ∧ Below W.heap.size W w') := fun W hW => between_r ((h.below b0).below hW) hF.rs hl 0 s (by omega) (by omega)
  have C2 : Hid (∀ W, Below W0.heap.size W0 W → Calls Try.prog 41 #[.slice ao l.length cap, .int .i64 (s + n), .int .i64 1048576] W fun e w' => ∃ v, e = .returned v ∧ Rw w' W.heap.size v (btw l (s + n) 1048576) ∧ Below W.heap.size W w') := fun W hW => between_r ((h.below b0).below hW) hF.rs hl (s + n) 1048576 (by omega) (by omega)
  have L1 : (btw l 0 s).length ≤ 1024 := Nat.le_trans (btw_le l 0 s) hl
  have L2 : (btw l (s + n) 1048576).length ≤ 1024 := Nat.le_trans (btw_le l (s + n) 1048576) hl
  have hs : Rs (btw l 0 s ++ ins ++ btw l (s + n) 1048576) := by
    refine rs_append (rs_append (btw_rs hF.rs) hiF (fun a ha b hb => ?_)) (btw_rs hF.rs) (fun a ha b hb => ?_)
    · have := btw_in ha
      have := hin b hb
      omega
    · have := btw_in hb
      rcases List.mem_append.1 ha with q | q
      · have := btw_in q
        omega
      · have := hin a q
        omega
  have HJ : Hid (wth l s n ins = jnd (btw l 0 s ++ ins ++ btw l (s + n) 1048576)) := rfl
  have D1 : Hid (∀ W v ty, Below W0.heap.size W0 W → Rw W W0.heap.size v (btw l 0 s) → ∃ v' w', (Builtin.append_ #[22, 22] ty #[v, .slice ai ins.length ci]).run Try.prog W = .ok v' w' ∧ Rw w' W0.heap.size v' (btw l 0 s ++ ins) ∧ Below W0.heap.size W0 w') := fun W v ty hW hR => by
    obtain ⟨v', w', h1, h2⟩ := app_jn (cx := ci) hR ((hi.below b0).below hW) hW.size (by omega) ty
    exact ⟨v', w', h1, h2.1, h2.below hW (fun g hg => (row_lt hR g hg).1)⟩
  have D2 : Hid (∀ W v ax cx ty, Below W0.heap.size W0 W → Rw W W0.heap.size v (btw l 0 s ++ ins) → Rn W ax (btw l (s + n) 1048576) → ∃ v' w', (Builtin.append_ #[22, 22] ty #[v, .slice ax (btw l (s + n) 1048576).length cx]).run Try.prog W = .ok v' w' ∧ Rw w' W0.heap.size v' (btw l 0 s ++ ins ++ btw l (s + n) 1048576) ∧ Below W0.heap.size W0 w') := fun W v ax cx ty hW hR hA => by
    obtain ⟨v', w', h1, h2⟩ := app_jn (cx := cx) hR hA hW.size (by simp; omega) ty
    exact ⟨v', w', h1, h2.1, h2.below hW (fun g hg => (row_lt hR g hg).1)⟩
  have D3 : Hid (∀ W a c, Rn W a (btw l 0 s ++ ins ++ btw l (s + n) 1048576) → Calls Try.prog 53 #[.slice a (btw l 0 s ++ ins ++ btw l (s + n) 1048576).length c] W (An W (ans (wth l s n ins)))) := fun W a c hR => by
    rw [HJ.out]
    exact joined_r hR hs (by simp; omega)
  have HDX : Hid (∀ W, Below W0.heap.size W0 W → W.cell? ⟨w.heap.size, 0, none⟩ = some (.int .i64 s) ∧ W.cell? ⟨w.heap.size, 1, none⟩ = some (.int .i64 n)) := fun W q => by subst hW0; exact ⟨cell_at w #[.int .i64 s, .int .i64 n] 31 q 0, cell_at w #[.int .i64 s, .int .i64 n] 31 q 1⟩
  have HB0 : Hid (Below w.heap.size w W0) := b0
  have HW0 : Hid (w.alloc (.cells #[.int .i64 s, .int .i64 n] 31) = W0) := hW0
  clear h hF hi hiF hin hp' HJ hs b0 hW0
  generalize wth l s n ins = res at *
  generalize btw l 0 s ++ ins ++ btw l (s + n) 1048576 = all at *
  generalize btw l 0 s ++ ins = mid at *
  generalize btw l 0 s = ah at *
  generalize btw l (s + n) 1048576 = be at *
  go_enter Try.func42, Try.ntmps42
  go_wp2_with fail
  rw [HW0.out]
  refine (C1.out _ (Below.refl _ _)).mono ?_
  rintro e w1 ⟨v1, rfl, r1, b1⟩
  have HB1 : Hid (Below W0.heap.size W0 w1) := b1
  have HR1 : Hid (Rw w1 W0.heap.size v1 ah) := r1
  clear r1 b1
  go_wp2_with (at_builtin; refine wpList_app rfl (.tmp 13) (.tmp 14) rfl _ _ rfl rfl (D1.out w1 v1 _ HB1.out HR1.out) ?_; rintro v2 w2 ⟨q2, b2⟩; have HR2 : Hid (Rw w2 W0.heap.size v2 mid) := q2; have HB2 : Hid (Below W0.heap.size W0 w2) := b2; obtain ⟨z0, z1⟩ := HDX.out w2 b2; clear q2 b2)
  refine (C2.out w2 HB2.out).mono ?_
  rintro e w3 ⟨v3, rfl, r3, b3⟩
  have HB3 : Hid (Below W0.heap.size W0 w3) := bs HB2.out b3
  have HR3 : Hid (Rw w3 W0.heap.size v2 mid) := HR2.out.below b3
  obtain ⟨a3, c3, rfl, h3⟩ := r3.as
  have HR4 : Hid (Rn w3 a3 be) := h3
  clear r3 b3 h3 z0 z1 HR2 HR1
  go_wp2_with (at_builtin; refine wpList_app rfl (.tmp 16) (.tmp 23) rfl _ _ rfl rfl (D2.out w3 v2 a3 c3 _ HB3.out HR3.out HR4.out) ?_; rintro v4 w4 ⟨q4, b4⟩; obtain ⟨a4, c4, rfl, h4⟩ := q4.as; have HR5 : Hid (Rn w4 a4 all) := h4; have HB4 : Hid (Below W0.heap.size W0 w4) := b4; clear q4 b4 h4)
  refine (D3.out w4 a4 c4 HR5.out).mono ?_
  rintro e w5 ⟨v5, rfl, q5, b5⟩
  have HF : Hid (Rw w5 w.heap.size v5 (ans res).1 ∧ Below w.heap.size w w5) := ⟨q5.mono (Nat.le_trans HB0.out.size HB4.out.size), bs HB0.out (bs HB4.out b5)⟩
  clear q5 b5
  go_wp2
  go_ret2
  exact ⟨v5, rfl, HF.out.1, HF.out.2⟩
end Go.Proofs.Ytmhfgfgiiinpjaa.V
