/- What Get of package anon answers: a record, its row new memory; no condition but those that the theorem names. -/
import Derived.Test.YtkbpnkjjmipjfaaGreatVZd
import Derived.Test.YtkbpnkjjmipjfaaGreatVZe
import Derived.Test.YtkbpnkjjmipjfaaGreatVSg
import Derived.Test.YtkbpnkjjmipjfaaGreatVWa
import Derived.Test.YtkbpnkjjmipjfaaGreatVWb
namespace Go.Proofs.YtkbpnkjjmipjfaaGreat.Az
open B P Go.ChangeShapes Go.WideShapes Go.ChangeAt Go.RowKit
set_option linter.unusedVariables false
set_option maxRecDepth 8192

theorem Tryz.infoAn : (Tryz.prog.info? 79).map (·.size) = some 4 := by kernel_rfl
theorem res2c {tmps : Array Value} {w : World} {y : Nat} {v0 v1 v2 v3 v5 : Value} (hp : tmps.getD 4 undef = .pointer (some ⟨y, 0, none⟩)) (h5 : tmps.getD 5 undef = v5) (hg : B.Blk w y 79 [v0, v1, v2, v3]) : (results Tryz.f29 tmps).run Tryz.prog w = .ok (.tuple #[.agg #[v0, v1, v2, v3], v5]) w := by
  have hp' : tmps[4]?.getD undef = .pointer (some ⟨y, 0, none⟩) := by simpa using hp
  have h5' : tmps[5]?.getD undef = v5 := by simpa using h5
  have hr := run_loadVar_row (P := Tryz.prog) w y 79 79 _ (0, 0) _ hg Tryz.underlying79 rfl Tryz.infoAn
  simp [results, Tryz.results29, hp', h5', asAddr, hr]
section
variable {w : World} {L : Nat → Nat} {a h s b N : Nat} {f : Rs} {g : Nat → Nat} {V : Nat → Value} {A : Nat → Nat}
def GtS (f : Rs) (id : Int) (w w' : World) (e : Ending) : Prop :=
  (rcd f id = none ∧ e = .returned (.tuple #[.agg #[.int .i64 0, .slice none 0 0, .int .i64 0, .int .i64 0], .int .i64 200])) ∨
  ∃ r v, rcd f id = some r ∧ e = .returned (.tuple #[.agg #[.int .i64 r.pg, v, .int .i64 r.fr, .int .i64 r.sl], .int .i64 0]) ∧ Own w' v r.ps ∧ ∀ x, v.ownBlock = some x → w.heap.size ≤ x
set_option maxHeartbeats 1000000 in
theorem Get_ok (K : An w L a h s b N f g V A) {id : Int} (hw : wfI id) : Calls Tryz.prog 29 #[.pointer (some ⟨a, 0, none⟩), .int .i64 id] w fun e w' => GtS f id w w' e ∧ Below w.heap.size w w' := by
  have CF : Hid (∀ W, Below w.heap.size w W → Calls Tryz.prog 84 #[.pointer (some ⟨a, 0, none⟩), .int .i64 id] W fun e w' => e = .returned (.tuple #[fdP f g id, .int .i64 (fdE f id)]) ∧ w' = W) := fun W hW => find_ok (K.below hW) hw
  have HK : Hid (An w L a h s b N f g V A) := K
  unfold fdE fdP at CF
  clear K
  cases hr : rcd f id with
  | none =>
    rw [hr] at CF
    have B1 : Hid (Below w.heap.size w (w.alloc (.cells #[.int .i64 0, .slice none 0 0, .int .i64 0, .int .i64 0] 79))) := (Below.refl _ _).alloc (Nat.le_refl _) _
    have HF : Hid (∀ W e, Below w.heap.size w W → e = .returned (.tuple #[.agg #[.int .i64 0, .slice none 0 0, .int .i64 0, .int .i64 0], .int .i64 200]) → GtS f id w W e ∧ Below w.heap.size w W) := fun W e hW he => ⟨Or.inl ⟨hr, he⟩, hW⟩
    have hb := B.blk_new w [.int .i64 0, .slice none 0 0, .int .i64 0, .int .i64 0] 79
    go_enter Tryz.func29, Tryz.ntmps29
    go_wp2_with (go_at_call 84; refine (CF.out _ B1.out).mono ?_; rintro e w1 ⟨rfl, hw⟩; obtain rfl := hw.symm; clear hw)
    exact bodyPost_ret (res2c rfl rfl hb) rfl (HF.out _ _ B1.out rfl)
  | some r =>
    rw [hr] at CF
    simp only [Option.map_some, Option.getD_some] at CF
    obtain ⟨h0, hr'⟩ := rcd_some hr
    have B1 : Below w.heap.size w (w.alloc (.cells #[.int .i64 0, .slice none 0 0, .int .i64 0, .int .i64 0] 79)) := (Below.refl _ _).alloc (Nat.le_refl _) _
    have hb := B.blk_new w [.int .i64 0, .slice none 0 0, .int .i64 0, .int .i64 0] 79
    go_enter Tryz.func29, Tryz.ntmps29
    go_wp2_with fail
    have hsz : w.heap.size < (w.alloc (.cells #[.int .i64 0, .slice none 0 0, .int .i64 0, .int .i64 0] 79)).heap.size := hb.lt
    generalize hW : w.alloc (.cells #[.int .i64 0, .slice none 0 0, .int .i64 0, .int .i64 0] 79) = W at *
    obtain ⟨y, hy⟩ : ∃ y, w.heap.size = y := ⟨_, rfl⟩
    have HB : Hid (B.Blk W y 79 [.int .i64 0, .slice none 0 0, .int .i64 0, .int .i64 0] ∧ Below w.heap.size w W ∧ w.heap.size = y) := ⟨by rw [← hy]; exact hb, B1, hy⟩
    refine (CF.out _ B1).mono ?_
    rintro e w1 ⟨rfl, hw1⟩
    obtain rfl := hw1.symm
    have KW := HK.out.below B1
    have k0 : W.cell? ⟨g id.toNat, 0, none⟩ = some (.int .i64 r.pg) := (KW.rc _ r hr').cell 0
    obtain ⟨x, cap, hV, hO, hx1, hx2, hx3, _⟩ := KW.row hr'
    have k1 : W.cell? ⟨g id.toNat, 1, none⟩ = some (.slice (some ⟨x, 0, none⟩) r.ps.length cap) := by rw [← hV]; exact (KW.rc _ r hr').cell 1
    have HO : Hid (Own W (.slice (some ⟨x, 0, none⟩) r.ps.length cap) r.ps) := hO
    have k2 : W.cell? ⟨g id.toNat, 2, none⟩ = some (.int .i64 r.fr) := (KW.rc _ r hr').cell 2
    have k3 : W.cell? ⟨g id.toNat, 3, none⟩ = some (.int .i64 r.sl) := (KW.rc _ r hr').cell 3
    rw [hy] at hsz ⊢
    have k1' : (W.alloc (.cells #[.int .i64 r.pg, .slice (some ⟨x, 0, none⟩) r.ps.length cap, .int .i64 r.fr, .int .i64 r.sl] 79)).cell? ⟨g id.toNat, 1, none⟩ = some (.slice (some ⟨x, 0, none⟩) r.ps.length cap) := ((Below.refl W.heap.size W).alloc (Nat.le_refl _) _).cell (p := ⟨g id.toNat, 1, none⟩) (KW.rc _ r hr').lt |>.trans k1
    clear hb B1 hW hy KW hw1 hV hO
    generalize hnl : r.ps.length = nl at *
    go_wp2_with fail
    have b1 := B.blk_new W [.int .i64 r.pg, .slice (some ⟨x, 0, none⟩) nl cap, .int .i64 r.fr, .int .i64 r.sl] 79
    have B1 : Below W.heap.size W (W.alloc (.cells #[.int .i64 r.pg, .slice (some ⟨x, 0, none⟩) nl cap, .int .i64 r.fr, .int .i64 r.sl] 79)) := (Below.refl _ _).alloc (Nat.le_refl _) _
    have hsz2 : W.heap.size < (W.alloc (.cells #[.int .i64 r.pg, .slice (some ⟨x, 0, none⟩) nl cap, .int .i64 r.fr, .int .i64 r.sl] 79)).heap.size := b1.lt
    clear k0 k1 k2 k3 k1'
    generalize W.alloc (.cells #[.int .i64 r.pg, .slice (some ⟨x, 0, none⟩) nl cap, .int .i64 r.fr, .int .i64 r.sl] 79) = W1 at *
    have CL := Clone_ok (w := W1) (v := .slice (some ⟨x, 0, none⟩) nl cap) (l := r.ps) ((HO.out.of_eq (fun c hc => B1.block c (HO.out.lt c hc)))) (by omega)
    have HY1 : Hid (B.Blk W1 y 79 [.int .i64 0, .slice none 0 0, .int .i64 0, .int .i64 0]) := HB.out.1.of_eq (B1.block y hsz)
    have HB1 : Hid (Below w.heap.size w W1) := HB.out.2.1.trans (B1.mono (by rw [HB.out.2.2]; omega))
    have HZ1 : Hid (B.Blk W1 W.heap.size 79 [.int .i64 r.pg, .slice (some ⟨x, 0, none⟩) nl cap, .int .i64 r.fr, .int .i64 r.sl]) := b1
    generalize W.heap.size = z at *
    clear b1 B1
    refine CL.mono ?_
    rintro e w2 ⟨v', rfl, o2, g2, n2⟩
    clear CL
    rcases o2.shape with ⟨_, e⟩ | ⟨x2, cap2, C2, e2, _⟩
    · exact absurd e (HK.out.ok.ne _ r hr')
    · have hx2z : W1.heap.size ≤ x2 := n2 x2 (by rw [e2]; rfl)
      have HO2 : Hid (Own w2 v' r.ps) := o2
      have HN2 : Hid (∀ c, v'.ownBlock = some c → W1.heap.size ≤ c) := n2
      have HB2 : Hid (Below w.heap.size w w2) := HB1.out.trans (below_of g2 _ HB1.out.size (by simp))
      have Y2 : B.Blk w2 y 79 [.int .i64 0, .slice none 0 0, .int .i64 0, .int .i64 0] := HY1.out.kept g2 (by simp)
      have Z2 : B.Blk w2 z 79 [.int .i64 r.pg, .slice (some ⟨x, 0, none⟩) nl cap, .int .i64 r.fr, .int .i64 r.sl] := HZ1.out.kept g2 (by simp)
      have q1 : w2.cell? ⟨z, 1, none⟩ = some (.slice (some ⟨x, 0, none⟩) nl cap) := Z2.cell 1
      have f1 := Z2.frozen 1
      have HY2 : Hid (B.Blk w2 y 79 [.int .i64 0, .slice none 0 0, .int .i64 0, .int .i64 0]) := Y2
      have HZ2 : Hid (B.Blk w2 z 79 [.int .i64 r.pg, .slice (some ⟨x, 0, none⟩) nl cap, .int .i64 r.fr, .int .i64 r.sl]) := Z2
      subst e2
      rw [hnl] at HO2 HN2 ⊢
      clear o2 n2 Y2 Z2 HY1 HZ1 g2 HB1
      go_upto_region 6 with fail
      have hyz : y ≠ z := by omega
      have hzs : z < w2.heap.size := HZ2.out.lt
      have g3 := grown_setCell' w2 z 1 (.slice (some ⟨x2, 0, none⟩) nl cap2)
      have Z3 : B.Blk (w2.setCell ⟨z, 1, none⟩ (.slice (some ⟨x2, 0, none⟩) nl cap2)) z 79 [.int .i64 r.pg, .slice (some ⟨x2, 0, none⟩) nl cap2, .int .i64 r.fr, .int .i64 r.sl] := HZ2.out.set 1 _
      have Y3 : B.Blk (w2.setCell ⟨z, 1, none⟩ (.slice (some ⟨x2, 0, none⟩) nl cap2)) y 79 [.int .i64 0, .slice none 0 0, .int .i64 0, .int .i64 0] := HY2.out.kept g3 (some_ne hyz)
      have HO3 : Hid (Own (w2.setCell ⟨z, 1, none⟩ (.slice (some ⟨x2, 0, none⟩) nl cap2)) (.slice (some ⟨x2, 0, none⟩) nl cap2) r.ps) := HO2.out.of_eq (fun c hc => g3.block c (HO2.out.lt c hc) (some_ne (by have := HN2.out c hc; omega)))
      have HB3 : Hid (Below w.heap.size w (w2.setCell ⟨z, 1, none⟩ (.slice (some ⟨x2, 0, none⟩) nl cap2))) := HB2.out.trans (below_of g3 _ HB2.out.size (fun k hk => by cases hk; have := HB.out.2.2; omega))
      generalize w2.setCell ⟨z, 1, none⟩ (.slice (some ⟨x2, 0, none⟩) nl cap2) = w3 at *
      have a0 : w3.cell? ⟨z, 0, none⟩ = some (.int .i64 r.pg) := Z3.cell 0
      have a1 : w3.cell? ⟨z, 1, none⟩ = some (.slice (some ⟨x2, 0, none⟩) nl cap2) := Z3.cell 1
      have a2 : w3.cell? ⟨z, 2, none⟩ = some (.int .i64 r.fr) := Z3.cell 2
      have a3 : w3.cell? ⟨z, 3, none⟩ = some (.int .i64 r.sl) := Z3.cell 3
      have y0 : w3.cell? ⟨y, 0, none⟩ = some (.int .i64 0) := Y3.cell 0
      have y1 : w3.cell? ⟨y, 1, none⟩ = some (.slice none 0 0) := Y3.cell 1
      have y2 : w3.cell? ⟨y, 2, none⟩ = some (.int .i64 0) := Y3.cell 2
      have y3 : w3.cell? ⟨y, 3, none⟩ = some (.int .i64 0) := Y3.cell 3
      have j0 := Y3.frozen 0
      have j1 := Y3.frozen 1
      have j2 := Y3.frozen 2
      have j3 := Y3.frozen 3
      have HYS : Hid (B.Blk w3 y 79 [.int .i64 0, .slice none 0 0, .int .i64 0, .int .i64 0]) := Y3
      clear Z3 Y3 q1 f1 g3
      go_wp2
      have Y4 := (((HYS.out.set 0 (.int .i64 r.pg)).set 1 (.slice (some ⟨x2, 0, none⟩) nl cap2)).set 2 (.int .i64 r.fr)).set 3 (.int .i64 r.sl)
      have G4 := (((grown_setCell' w3 y 0 (.int .i64 r.pg)).trans (grown_setCell' _ y 1 (.slice (some ⟨x2, 0, none⟩) nl cap2))).trans (grown_setCell' _ y 2 (.int .i64 r.fr))).trans (grown_setCell' _ y 3 (.int .i64 r.sl))
      refine bodyPost_ret (res2c rfl rfl Y4) rfl ⟨Or.inr ⟨r, .slice (some ⟨x2, 0, none⟩) nl cap2, hr, rfl, HO3.out.of_eq (fun c hc => G4.block c (HO3.out.lt c hc) (some_ne (by have := HN2.out c hc; omega))), fun c hc => ?_⟩, HB3.out.trans (below_of G4 _ HB3.out.size (fun k hk => by cases hk; have := HB.out.2.2; omega))⟩
      have h1 := HN2.out c hc
      have h2 := HB.out.2.2
      omega
end
end Go.Proofs.YtkbpnkjjmipjfaaGreat.Az
namespace Go.Proofs.YtkbpnkjjmipjfaaGreat.Az
open B P Go.ChangeShapes Go.WideShapes Go.ChangeAt Go.RowKit
set_option linter.unusedVariables false
set_option maxRecDepth 8192

theorem se_base {w00 w0 w : World} {F : Nat → Prop} {p : Nat} {Q : Par} {us : Us} {s b u : Nat} {mk : Ms} (h : P.Se w0 w F p Q us s b u mk) (hb : Below w00.heap.size w00 w0) : P.Se w00 w F p Q us s b u mk :=
  { h with
    be := hb.trans (h.be.mono hb.size)
    fl := fun x hx => Nat.le_trans hb.size (h.fl x hx)
    s0 := Nat.le_trans hb.size h.s0
    b0 := Nat.le_trans hb.size h.b0 }
section
variable {Y : Nat → Prop} {w0 w w' : World} {z : Pz} {hw : E.Hw} {Q : Par} {u N : Nat} {f : Rs}
theorem Tt.frame (T : Tt Y w0 w z hw Q u N f) {id : Int} (hid : wfI id) (x : Int) : Calls Tryz.prog 31 #[.pointer (some ⟨z.a, 0, none⟩), .int .i64 id, .int .i64 x] w fun e w' => ∃ e' f', e = .returned (.int .i64 e') ∧ FrS f id x 4096 (fun r => { r with fr := x, sl := -1 }) f' e' ∧ Tl Y w0 z hw Q u N w f' w' := by
  obtain ⟨X, F, L, sc, us, mk, g, V, A, K, o, lb, hY⟩ := T
  refine (Frame_ok K.an hid x).mono ?_
  rintro e w' ⟨e', f', rfl, hF, L', V', a', k'⟩
  obtain ⟨T1, T2⟩ := K.recs k' a'
  refine ⟨e', f', rfl, hF, _, ⟨X, F, L', sc, us, mk, g, V', A, T1, ?_, lb, rfl⟩, by rw [hY]; exact T2⟩
  rcases hF with ⟨_, rfl, _⟩ | ⟨r, hr, ⟨_, rfl, _⟩ | ⟨_, rfl, _⟩⟩
  · exact o
  · exact o
  · exact o.same (rcd_some hr).2
theorem Tt.get (T : Tt Y w0 w z hw Q u N f) {id : Int} (hid : wfI id) : Calls Tryz.prog 29 #[.pointer (some ⟨z.a, 0, none⟩), .int .i64 id] w fun e w' => GtS f id w w' e ∧ Below w.heap.size w w' := by
  obtain ⟨X, F, L, sc, us, mk, g, V, A, K, _⟩ := T
  exact Get_ok K.an hid
theorem Tt.of_ (T : Tt Y w0 w z hw Q u N f) (pg pd : Int) : Calls Tryz.prog 30 #[.pointer (some ⟨z.a, 0, none⟩), .int .i64 pg, .int .i64 pd] w fun e w' => ∃ i t e', e = .returned (.tuple #[.int .i64 i, .bool t, .int .i64 e']) ∧ OfB f pg pd i t e' ∧ Below w.heap.size w w' := by
  obtain ⟨X, F, L, sc, us, mk, g, V, A, K, _⟩ := T
  exact Of_ok K.an pg pd
theorem Tt.count (T : Tt Y w0 w z hw Q u N f) : Calls Tryz.prog 33 #[.pointer (some ⟨z.a, 0, none⟩)] w fun e w' => e = .returned (.int .i64 (cn f N : Nat)) ∧ w' = w := by
  obtain ⟨X, F, L, sc, us, mk, g, V, A, K, _⟩ := T
  exact Count_ok K.an
theorem Tt.held (T : Tt Y w0 w z hw Q u N f) : Calls Tryz.prog 83 #[.pointer (some ⟨z.s, 0, none⟩)] w fun e w' => ∃ a c, e = .returned (.slice a (cn f N) c) ∧ Below w.heap.size w w' := by
  obtain ⟨X, F, L, sc, us, mk, g, V, A, K, o, _⟩ := T
  refine K.se.held.mono ?_
  rintro e w' ⟨v, rfl, hI, hb, _⟩
  have hl := o.len K.an.ok.far
  rw [← hl]
  rcases hI with ⟨_, ⟨rfl, e2⟩ | ⟨g', cap, C, rfl, _⟩⟩
  · exact ⟨none, 0, by first | rw [e2] | skip, hb⟩
  · exact ⟨_, _, rfl, hb⟩
end
set_option maxHeartbeats 1000000 in
theorem over_ok (w0 : World) : Calls Tryz.prog 23 #[] w0 fun e w' => ∃ (z : Pz) (Y : Nat → Prop), e = .returned (.tuple #[.pointer (some ⟨z.a, 0, none⟩), .pointer (some ⟨z.s, 0, none⟩), .bool true]) ∧ Tt Y w0 w' z (E.hwOf us) PU 6 20 (fun _ => none) := by
  go_enter Tryz.func23, Tryz.ntmps23
  go_wp2_with fail
  refine (usual_any w0).mono ?_
  rintro e w1 ⟨n1, n2, n3, n4, a, c, rfl, rfl, rfl, hU, _, hb⟩
  have HU : Hid (Below w0.heap.size w0 w1) := hb
  have HC : Hid (Calls _ _ _ _ _) := E.New_ok hU.cin us_may
  clear hU hb
  generalize Ud n1 n2 n3 n4 = a at *
  go_wp2_with fail
  refine HC.out.mono ?_
  rintro e w2 ⟨h, X, rfl, hc, k⟩
  have HB2 : Hid (Below w0.heap.size w0 w2) := HU.out.trans ((P.kp_false (kpC k)).mono HU.out.size)
  have HX : Hid (E.Cr E.pK w2 X h (E.hwOf us) E.s0 ∧ (∀ x, X x → w0.heap.size ≤ x)) := ⟨hc, fun x hx => by
    rcases k.new x hx with q | q
    · exact q.elim
    · exact Nat.le_trans HU.out.size q⟩
  clear hc k HC HU
  go_wp2_with fail
  refine (usual_any w2).mono ?_
  rintro e w3 ⟨n1, n2, n3, n4, a, c, rfl, rfl, rfl, hU, _, hb⟩
  have HP : Hid (Calls _ _ _ _ _) := P.new_pe hb rfl hU.cin
  clear hU hb
  generalize Ud n1 n2 n3 n4 = a at *
  go_wp2_with fail
  refine HP.out.mono ?_
  rintro e w4 ⟨p, F, rfl, h4⟩
  have HS : Hid (Calls Tryz.prog 11 #[.pointer (some ⟨p, 0, none⟩), .int .u8 6] w4 _) := P.snew_pe h4 (u := 6) (by omega)
  clear h4 HP
  go_wp2_with fail
  refine HS.out.mono ?_
  rintro e w5 ⟨s, q, rfl, h5⟩
  have K : Cs w0 w5 X F h s q p (E.hwOf us) E.s0 PU 6 := ⟨HX.out.1.below (h5.be.mono (Nat.le_refl _)), HX.out.2, se_base h5 HB2.out, fun x hx => by
    have h1 := HX.out.1.lt x hx
    refine ⟨fun y => ?_, fun y => ?_, fun y => ?_⟩
    · have := h5.fl x y; omega
    · have := h5.s0; omega
    · have := h5.b0; omega, by decide⟩
  have HN : Hid (Calls _ _ _ _ _) := New_ok (N := 20) K (by omega)
  clear K h5 HS HX HB2
  go_wp2_with fail
  refine HN.out.mono ?_
  rintro e w6 ⟨z, Y, rfl, rfl, hT⟩
  have HT : Hid (Tt Y w0 w6 z (E.hwOf us) PU 6 20 (fun _ => none)) := hT
  clear hT HN
  go_wp2
  go_ret3
  exact ⟨z, Y, rfl, HT.out⟩
end Go.Proofs.YtkbpnkjjmipjfaaGreat.Az
namespace Go.Proofs.YtkbpnkjjmipjfaaGreat.Az
open B P Go.ChangeShapes Go.WideShapes Go.ChangeAt Go.RowKit
set_option linter.unusedVariables false
set_option maxRecDepth 8192

def aS1 : Rs := put (fun _ => none) 0 (some ⟨7, [0], -1, -1⟩)
def aS2 : Rs := put aS1 0 (some ⟨7, [0, 2], -1, -1⟩)
def aS3 : Rs := put aS2 0 (some ⟨7, [0, 2], 9, -1⟩)
def aS4 : Rs := put aS3 0 (some ⟨7, [2], 9, -1⟩)
theorem aMake {f' : Rs} {te i e : Int} (h : MkS (fun _ => none) 7 0 te f' i e) (ht : te = 0) : f' = aS1 ∧ i = 0 ∧ e = 0 := by
  rcases h with ⟨q, _⟩ | ⟨_, ⟨k, r, q, _⟩, _⟩ | ⟨_, _, q, _⟩ | ⟨_, _, _, k, hk, rfl, rfl, rfl⟩
  · exact absurd ⟨by omega, by omega, by omega, by omega⟩ q
  · cases q
  · exact absurd ht q
  · have : k = 0 := by
      rcases Nat.eq_zero_or_pos k with q | q
      · exact q
      · exact absurd rfl (hk.2 0 q)
    subst this
    exact ⟨rfl, rfl, rfl⟩
theorem aShare {f' : Rs} {e : Int} (h : ShS aS1 0 2 f' e) : f' = aS2 ∧ e = 0 := by
  rcases h with ⟨q, _⟩ | ⟨r, hr, q⟩
  · cases q
  · have e1 : rcd aS1 0 = some ⟨7, [0], -1, -1⟩ := rfl
    rw [e1] at hr
    cases hr
    rcases q with ⟨q, _⟩ | ⟨_, ⟨k, q⟩, _⟩ | ⟨_, _, rfl, rfl⟩
    · exact absurd ⟨by omega, by omega⟩ q
    · unfold aS1 at q
      rcases fd_put.1 q with ⟨_, r, q, _⟩ | ⟨_, r, q, _, q3⟩
      · cases q
      · cases q
        simp at q3
    · exact ⟨rfl, rfl⟩
theorem aFrame {f' : Rs} {e : Int} (h : FrS aS2 0 9 4096 (fun r => { r with fr := 9, sl := -1 }) f' e) : f' = aS3 ∧ e = 0 := by
  have e1 : rcd aS2 0 = some ⟨7, [0, 2], -1, -1⟩ := rfl
  rcases h with ⟨q, _⟩ | ⟨r, hr, ⟨q, _⟩ | ⟨_, rfl, rfl⟩⟩
  · rw [e1] at q; cases q
  · exact absurd ⟨by omega, by omega⟩ q
  · rw [e1] at hr
    cases hr
    exact ⟨rfl, rfl⟩
theorem aGet {w w' : World} {e : Ending} (h : GtS aS3 0 w w' e) : ∃ v, e = .returned (.tuple #[.agg #[.int .i64 7, v, .int .i64 9, .int .i64 (-1)], .int .i64 0]) ∧ Is w' 0 v [0, 2] ∧ ∀ x, v.ownBlock = some x → w.heap.size ≤ x := by
  have e1 : rcd aS3 0 = some ⟨7, [0, 2], 9, -1⟩ := rfl
  rcases h with ⟨q, _⟩ | ⟨r, v, hr, rfl, ho, hn⟩
  · rw [e1] at q; cases q
  · rw [e1] at hr
    cases hr
    exact ⟨v, rfl, ho, hn⟩
theorem aLeave {f' : Rs} {m e : Int} (h : LvS aS3 0 0 f' m e) : f' = aS4 ∧ m = 1 ∧ e = 0 := by
  have e1 : rcd aS3 0 = some ⟨7, [0, 2], 9, -1⟩ := rfl
  rcases h with ⟨q, _⟩ | ⟨r, hr, q⟩
  · rw [e1] at q; cases q
  · rw [e1] at hr
    cases hr
    rcases q with ⟨q, _⟩ | ⟨_, q, _⟩ | ⟨_, _, rfl, rfl, rfl⟩
    · exact absurd ⟨by omega, by omega⟩ q
    · simp at q
    · exact ⟨rfl, rfl, rfl⟩
theorem aOf {i e : Int} {t : Bool} (h : OfB aS4 7 2 i t e) : i = 0 ∧ t = true ∧ e = 0 := by
  have hf : Fd aS4 7 2 0 := ⟨⟨7, [2], 9, -1⟩, rfl, rfl, by simp⟩
  rcases h with ⟨q, _⟩ | ⟨_, ⟨k, q, rfl, rfl⟩ | ⟨q, _⟩, rfl⟩
  · exact absurd ⟨by omega, by omega, by omega, by omega⟩ q
  · refine ⟨?_, rfl, rfl⟩
    unfold aS4 at q
    rcases fd_put.1 q with ⟨h0, r, q, _⟩ | ⟨rfl, _⟩
    · unfold aS3 at q
      rw [put_other h0] at q
      unfold aS2 at q
      rw [put_other h0] at q
      unfold aS1 at q
      rw [put_other h0] at q
      cases q
    · rfl
  · exact absurd hf (q 0)
set_option maxHeartbeats 1000000 in
theorem awake_any (w0 : World) : Calls Tryz.prog 7 #[] w0 fun e w' => e = .returned (.bool true) ∧ Below w0.heap.size w0 w' := by
  go_enter Tryz.func7, Tryz.ntmps7
  go_wp2_with fail
  refine (over_ok w0).mono ?_
  rintro e w1 ⟨z, Y, rfl, T⟩
  have C1 : Hid (Calls _ _ _ _ _) := Make_ok T (by rw [cn_nil]; omega) 7 0
  clear T
  go_wp2_with fail
  refine C1.out.mono ?_
  rintro e w2 ⟨i, te, e', f', rfl, hte, hM, Y1, T, _⟩
  have ht : te = 0 := by
    rcases hte with q | ⟨_, q⟩
    · exact q
    · rw [cn_nil] at q
      exact absurd q (by decide)
  obtain ⟨rfl, rfl, rfl⟩ := aMake hM ht
  have C2 : Hid (Calls _ _ _ _ _) := Share_ok T (id := 0) ⟨by omega, by omega⟩ 2
  clear T hM hte ht C1
  go_wp2_with fail
  refine C2.out.mono ?_
  rintro e w3 ⟨e', f', rfl, hS, Y2, T, _⟩
  obtain ⟨rfl, rfl⟩ := aShare hS
  have C3 : Hid (Calls _ _ _ _ _) := Tt.frame T (id := 0) ⟨by omega, by omega⟩ 9
  clear T hS C2
  go_wp2_with fail
  refine C3.out.mono ?_
  rintro e w4 ⟨e', f', rfl, hS, Y3, T, _⟩
  obtain ⟨rfl, rfl⟩ := aFrame hS
  have C4 : Hid (Calls _ _ _ _ _) := Tt.get T (id := 0) ⟨by omega, by omega⟩
  have HT : Hid (Tt Y3 w0 w4 z (E.hwOf us) PU 6 20 aS3) := T
  clear T hS C3
  go_wp2_with fail
  refine C4.out.mono ?_
  rintro e w5 ⟨hG, hB⟩
  obtain ⟨v, rfl, hI, hn⟩ := aGet hG
  obtain ⟨x, cap, rfl⟩ : ∃ x cap, v = .slice (some ⟨x, 0, none⟩) 2 cap := by
    rcases (show Own w5 v [0, 2] from hI).shape with ⟨_, e⟩ | ⟨x, cap, C, e, _⟩
    · cases e
    · exact ⟨x, cap, e⟩
  clear hG C4
  have hx4 : w4.heap.size ≤ x := hn x rfl
  have hxY : ¬ Y3 x := fun q => by have := HT.out.lt x q; omega
  have hx5 : x < w5.heap.size := by
    rcases (show Own w5 (.slice (some ⟨x, 0, none⟩) 2 cap) [0, 2] from hI).shape with ⟨_, e⟩ | ⟨x', cap', C, e, hC⟩
    · cases e
    · exact (show Own w5 (.slice (some ⟨x, 0, none⟩) 2 cap) [0, 2] from hI).lt x rfl
  have hyY : ¬ Y3 w5.heap.size := fun q => by have := HT.out.lt _ q; have := hB.size; omega
  have b5 := B.blk_new w5 [.int .i64 7, .slice (some ⟨x, 0, none⟩) 2 cap, .int .i64 9, .int .i64 (-1)] 79
  have B5 : Below w5.heap.size w5 (w5.alloc (.cells #[.int .i64 7, .slice (some ⟨x, 0, none⟩) 2 cap, .int .i64 9, .int .i64 (-1)] 79)) := (Below.refl _ _).alloc (Nat.le_refl _) _
  have T5 := (HT.out.below hB).below B5
  have C5 : Hid (Calls _ _ _ _ _) := Leave_ok T5 (id := 0) ⟨by omega, by omega⟩ 0
  have H5 : Hid (Is (w5.alloc (.cells #[.int .i64 7, .slice (some ⟨x, 0, none⟩) 2 cap, .int .i64 9, .int .i64 (-1)] 79)) 0 (.slice (some ⟨x, 0, none⟩) 2 cap) [0, 2] ∧ B.Blk (w5.alloc (.cells #[.int .i64 7, .slice (some ⟨x, 0, none⟩) 2 cap, .int .i64 9, .int .i64 (-1)] 79)) w5.heap.size 79 [.int .i64 7, .slice (some ⟨x, 0, none⟩) 2 cap, .int .i64 9, .int .i64 (-1)] ∧ ¬ Y3 x ∧ ¬ Y3 w5.heap.size ∧ x < (w5.alloc (.cells #[.int .i64 7, .slice (some ⟨x, 0, none⟩) 2 cap, .int .i64 9, .int .i64 (-1)] 79)).heap.size) := ⟨(show Own _ _ _ from hI).of_eq (fun k hk => B5.block k ((show Own _ _ _ from hI).lt k hk)), b5, hxY, hyY, Nat.lt_of_lt_of_le hx5 B5.size⟩
  clear hx4 hxY hx5 hyY b5 B5 T5 hn hI hB HT
  go_wp2_with fail
  generalize w5.alloc (.cells #[.int .i64 7, .slice (some ⟨x, 0, none⟩) 2 cap, .int .i64 9, .int .i64 (-1)] 79) = W5 at *
  generalize w5.heap.size = y at *
  refine C5.out.mono ?_
  rintro e w6 ⟨m, e', f', rfl, hL, Y4, T, k⟩
  obtain ⟨rfl, rfl, rfl⟩ := aLeave hL
  have C6 : Hid (Calls _ _ _ _ _) := Tt.of_ T 7 2
  have H6 : Hid (Is w6 0 (.slice (some ⟨x, 0, none⟩) 2 cap) [0, 2] ∧ B.Blk w6 y 79 [.int .i64 7, .slice (some ⟨x, 0, none⟩) 2 cap, .int .i64 9, .int .i64 (-1)] ∧ Below w0.heap.size w0 w6) := ⟨(show Own _ _ _ from H5.out.1).of_eq (fun q hq => k.block q ((show Own _ _ _ from H5.out.1).lt q hq) (fun z => by have e : x = q := Option.some.inj hq; exact H5.out.2.2.1 (e ▸ z))), H5.out.2.1.of_eq (k.block y H5.out.2.1.lt H5.out.2.2.2.1), T.be⟩
  clear C5 H5 T k hL
  go_wp2_with fail
  refine C6.out.mono ?_
  rintro e w7 ⟨i, t, e', rfl, hO, hB⟩
  obtain ⟨rfl, rfl, rfl⟩ := aOf hO
  have b7 : B.Blk w7 y 79 _ := H6.out.2.1.of_eq (hB.block y H6.out.2.1.lt)
  have c0 := b7.cell 0
  have c1 := b7.cell 1
  have c2 := b7.cell 2
  have c3 := b7.cell 3
  have B8 : Below w7.heap.size w7 (w7.alloc (.cells #[.int .i64 0, .int .i64 2] 3)) := (Below.refl _ _).alloc (Nat.le_refl _) _
  have I7 : Own w7 (.slice (some ⟨x, 0, none⟩) 2 cap) [0, 2] := (show Own _ _ _ from H6.out.1).of_eq (fun q hq => hB.block q ((show Own _ _ _ from H6.out.1).lt q hq))
  have CE : Hid (Calls Tryz.prog 36 #[.slice (some ⟨x, 0, none⟩) 2 cap, .slice (some ⟨w7.heap.size, 0, none⟩) 2 2] (w7.alloc (.cells #[.int .i64 0, .int .i64 2] 3)) _) := P.eq_two (base := 0) (I7.of_eq (fun q hq => B8.block q (I7.lt q hq))) (B.blk_new w7 [.int .i64 0, .int .i64 2] 3)
  have HB8 : Hid (Below w0.heap.size w0 (w7.alloc (.cells #[.int .i64 0, .int .i64 2] 3))) := (H6.out.2.2.trans (hB.mono H6.out.2.2.size)).trans (B8.mono (Nat.le_trans H6.out.2.2.size hB.size))
  clear b7 B8 I7 hB hO C6 H6
  go_wp2_with fail
  refine CE.out.mono ?_
  rintro e w8 ⟨rfl, hb8⟩
  have HB9 : Hid (Below w0.heap.size w0 w8) := HB8.out.trans (hb8.mono HB8.out.size)
  clear hb8 CE HB8 c0 c1 c2 c3
  go_wp2
  go_ret
  exact ⟨rfl, HB9.out⟩
end Go.Proofs.YtkbpnkjjmipjfaaGreat.Az
