/- Add, Remove, List of a ring; no condition but a ring, or none. -/
import Derived.Test.YtimeoinmepfpnaaRi
namespace Go.Proofs.Ytimeoinmepfpnaa.Ri
open Go.ChangeShapes Go.WideShapes Go.ChangeAt Go.RowKit
set_option linter.unusedVariables false
set_option maxRecDepth 8192

/-- A ring's row, from the hand on. -/
def Rx (w : World) (p g : Nat) (L : List Int) : Prop := ∃ l h, Rn w p g l h ∧ L = rw_ l h
def Two (p g : Nat) : Nat → Prop := fun k => k = p ∨ k = g
theorem Rx.below {w w' : World} {p g : Nat} {L : List Int} (r : Rx w p g L) (k : Below w.heap.size w w') : Rx w' p g L := by
  obtain ⟨l, h, r, e⟩ := r
  exact ⟨l, h, r.below k, e⟩
theorem Rx.ch {F : Nat → Prop} {w w' : World} {p g : Nat} {L : List Int} (r : Rx w p g L) (k : Ch F w w') (h1 : ¬ F p) (h2 : ¬ F g) : Rx w' p g L := by
  obtain ⟨l, h, r, e⟩ := r
  exact ⟨l, h, r.ch k h1 h2, e⟩
theorem Rx.ok {w : World} {p g : Nat} {L : List Int} (r : Rx w p g L) : Ok L := by
  obtain ⟨l, h, r, rfl⟩ := r
  exact r.ok.perm (rw_perm l h)
theorem Rx.ne {w : World} {p g : Nat} {L : List Int} (r : Rx w p g L) : p ≠ g := by
  obtain ⟨l, h, r, rfl⟩ := r
  exact r.ne
theorem Rx.pl {w : World} {p g : Nat} {L : List Int} (r : Rx w p g L) : p < w.heap.size := by
  obtain ⟨l, h, r, rfl⟩ := r
  exact r.pl
theorem Rx.gl {w : World} {p g : Nat} {L : List Int} (r : Rx w p g L) : g < w.heap.size := by
  obtain ⟨l, h, r, rfl⟩ := r
  exact r.gl
/-- What a call leaves that turns a ring. -/
def Tn (w : World) (p g : Nat) (L' : List Int) (w' : World) : Prop := ∃ g', Rx w' p g' L' ∧ Ch (Two p g) w w' ∧ (g' = g ∨ w.heap.size ≤ g')
theorem Tn.same {w : World} {p g : Nat} {L : List Int} (r : Rx w p g L) : Tn w p g L w := ⟨g, r, Ch.refl _ _, Or.inl rfl⟩
theorem Add_no {w : World} {q : Option Addr} (r : NoR w q) (x : Int) : Calls Try.prog 10 #[.pointer q, .int .i64 x] w fun e w' => e = .returned (.int .i64 1) ∧ w' = w := by
  have CM := made_no r
  clear r
  go_enter Try.func10, Try.ntmps10
  go_wp2_with (go_at_call 25; refine CM.mono ?_; rintro e w' ⟨rfl, hw⟩; obtain rfl := hw.symm)
  go_ret
  exact ⟨rfl, rfl⟩
theorem Remove_no {w : World} {q : Option Addr} (r : NoR w q) (x : Int) : Calls Try.prog 20 #[.pointer q, .int .i64 x] w fun e w' => e = .returned (.int .i64 1) ∧ w' = w := by
  have CM := made_no r
  clear r
  go_enter Try.func20, Try.ntmps20
  go_wp2_with (go_at_call 25; refine CM.mono ?_; rintro e w' ⟨rfl, hw⟩; obtain rfl := hw.symm)
  go_ret
  exact ⟨rfl, rfl⟩
theorem List_no {w : World} {q : Option Addr} (r : NoR w q) : Calls Try.prog 13 #[.pointer q] w fun e w' => e = .returned (.slice none 0 0) ∧ w' = w := by
  have CM := made_no r
  clear r
  go_enter Try.func13, Try.ntmps13
  go_wp2_with (go_at_call 25; refine CM.mono ?_; rintro e w' ⟨rfl, hw⟩; obtain rfl := hw.symm)
  go_ret
  exact ⟨rfl, rfl⟩
set_option maxHeartbeats 1000000 in
theorem Add_n {w : World} {p g h : Nat} {l : List Int} (r : Rn w p g l h) (x : Int) (hx : x < 9223372036854775808) :
    Calls Try.prog 10 #[.pointer (some ⟨p, 0, none⟩), .int .i64 x] w fun e w' => ∃ L' er, e = .returned (.int .i64 er) ∧ AdS (rw_ l h) x L' er ∧ Tn w p g L' w' := by
  have CM := made_ok r
  have HR : Hid (Rn w p g l h) := r
  obtain ⟨⟨cap, h1, h2⟩, h3, h4, h5⟩ := r
  have hle := h4.le
  have c0 : w.cell? ⟨p, 0, none⟩ = some (.slice (some ⟨g, 0, none⟩) l.length cap) := h1.cell 0
  have c1 : w.cell? ⟨p, 1, none⟩ = some (.int .i64 h) := h1.cell 1
  have fz : w.frozen? ⟨p, 0, none⟩ = false := h1.frozen 0
  have CC : Hid (Calls _ _ _ _ _) := Contains_ok (x := x) h2 (by omega)
  by_cases hx0 : x < 0
  · clear h1 h2 h4 h5
    generalize l.length = n at *
    go_enter Try.func10, Try.ntmps10
    go_wp2_with (go_at_call 25; refine CM.mono ?_; rintro e w' ⟨rfl, hw⟩; obtain rfl := hw.symm)
    go_ret
    exact ⟨_, _, rfl, Or.inl ⟨hx0, rfl, rfl⟩, Tn.same ⟨l, h, HR.out, rfl⟩⟩
  · by_cases hm : x ∈ l
    · rw [decide_eq_true hm] at CC
      have HM : Hid (x ∈ rw_ l h) := rw_mem.2 hm
      clear h1 h2 h4 h5 hm
      generalize l.length = n at *
      go_enter Try.func10, Try.ntmps10
      go_wp2_with (first | (go_at_call 25; refine CM.mono ?_; rintro e w' ⟨rfl, hw⟩; obtain rfl := hw.symm) | (go_at_call 26; refine CC.out.mono ?_; rintro e w' ⟨rfl, hw⟩; obtain rfl := hw.symm))
      go_ret
      exact ⟨_, _, rfl, Or.inr (Or.inl ⟨by omega, HM.out, rfl, rfl⟩), Tn.same ⟨l, h, HR.out, rfl⟩⟩
    · rw [decide_eq_false hm] at CC
      have HM : Hid (x ∉ rw_ l h) := fun q => hm (rw_mem.1 q)
      by_cases hfull : l.length = 4096
      · have HF : Hid (4096 ≤ (rw_ l h).length) := by unfold Hid; rw [rw_len]; omega
        clear h1 h2 h4 h5 hm
        generalize l.length = n at *
        obtain rfl := hfull.symm
        go_enter Try.func10, Try.ntmps10
        go_wp2_with (first | (go_at_call 25; refine CM.mono ?_; rintro e w' ⟨rfl, hw⟩; obtain rfl := hw.symm) | (go_at_call 26; refine CC.out.mono ?_; rintro e w' ⟨rfl, hw⟩; obtain rfl := hw.symm))
        go_ret
        exact ⟨_, _, rfl, Or.inr (Or.inr (Or.inl ⟨by omega, HM.out, HF.out, rfl, rfl⟩)), Tn.same ⟨l, h, HR.out, rfl⟩⟩
      · have hhl := HR.out.hle
        have HO : Hid (Own w (.slice (some ⟨g, 0, none⟩) l.length cap) l) := h2
        have HB : Hid (Blk w p 53 [.slice (some ⟨g, 0, none⟩) l.length cap, .int .i64 h]) := h1
        have hpl : p < w.heap.size := h1.lt
        obtain ⟨l', hl'⟩ : ∃ l', l' = l.take h ++ x :: l.drop h := ⟨_, rfl⟩
        have hll : l'.length = l.length + 1 := by rw [hl']; simp; omega
        have hok : AdS (rw_ l h) x (rw_ l h ++ [x]) 0 := Or.inr (Or.inr (Or.inr ⟨by omega, HM.out, by rw [rw_len]; omega, rfl, rfl⟩))
        have hrw : rw_ l' (h + 1) = rw_ l h ++ [x] := by rw [hl']; exact rw_add hhl x
        have hLok : Ok l' := by
          have := (HR.out.ok.perm (rw_perm l h)).add hx hok
          rw [← hrw] at this
          exact this.perm (rw_perm l' (h + 1)).symm
        have CI : Hid (∀ W, Below w.heap.size w W → Blk W w.heap.size 3 [.int .i64 x] → Calls Try.prog 27 #[.slice (some ⟨g, 0, none⟩) l.length cap, .int .i64 h, .slice (some ⟨w.heap.size, 0, none⟩) 1 1] W fun e w' => ∃ g1 k1, e = .returned (.slice (some ⟨g1, 0, none⟩) (l.length + 1) k1) ∧ Own w' (.slice (some ⟨g1, 0, none⟩) (l.length + 1) k1) l' ∧ W.grownBy w' (some g) ∧ (g1 = g ∨ W.heap.size ≤ g1)) := fun W hW hb => by
          have hoW := HO.out.below hW
          have := Insert_ok hoW (by omega) h hhl x w.heap.size hb (fun q => by have := HO.out.lt _ q; omega)
          rw [← hl'] at this
          refine this.mono ?_
          rintro e w' ⟨v', rfl, q1, q2, q3⟩
          obtain ⟨g1, k1, Lv, e1, _⟩ := q1.shape.resolve_left (by rintro ⟨_, q⟩; rw [q] at hll; simp at hll)
          rw [hll] at e1
          subst e1
          exact ⟨g1, k1, rfl, q1, q2, (q3 g1 rfl).imp (fun z => by injection z with z; exact z.symm) id⟩
        have SO : Hid (∀ W g1 k1, Blk W p 53 [.slice (some ⟨g1, 0, none⟩) (l.length + 1) k1, .int .i64 h] → Own W (.slice (some ⟨g1, 0, none⟩) (l.length + 1) k1) l' → p ≠ g1 → Calls Try.prog 28 #[.pointer (some ⟨p, 0, none⟩)] W fun e w' => e = .returned (.tuple #[]) ∧ Rx w' p g1 (rw_ l h ++ [x]) ∧ Ch (One p) W w') := fun W g1 k1 q1 q2 q3 => by
          rw [← hll] at q1 q2
          refine (step_ok (w := W) (p := p) (g := g1) (h := h) (l := l') ⟨⟨k1, q1, q2⟩, q3, hLok, Or.inl (by omega)⟩ (by omega)).mono ?_
          rintro e w' ⟨rfl, r1, k⟩
          refine ⟨rfl, ⟨_, _, r1, ?_⟩, k⟩
          rw [← hrw]
          by_cases z : h + 1 < l'.length
          · rw [Nat.mod_eq_of_lt z]
          · have : h + 1 = l'.length := by omega
            rw [this, Nat.mod_self, rw_full, rw_zero]
        have HAD : Hid (AdS (rw_ l h) x (rw_ l h ++ [x]) 0) := hok
        have BN : Hid (Blk (w.alloc (.cells #[.int .i64 x] 3)).drew w.heap.size 3 [.int .i64 x]) := blk_new w [.int .i64 x] 3
        have BB : Hid (Below w.heap.size w (w.alloc (.cells #[.int .i64 x] 3)).drew) := ((Below.refl _ w).alloc (Nat.le_refl _) _).drew
        have hgl := HO.out.lt g rfl
        clear h1 h2 h4 h5 hm hok hrw hll hLok hl'
        generalize rw_ l h ++ [x] = L' at *
        generalize l.length = n at *
        go_enter Try.func10, Try.ntmps10
        go_wp2_with (first | (go_at_call 25; refine CM.mono ?_; rintro e w' ⟨rfl, hw⟩; obtain rfl := hw.symm) | (go_at_call 26; refine CC.out.mono ?_; rintro e w' ⟨rfl, hw⟩; obtain rfl := hw.symm))
        have d1 : (w.alloc (.cells #[.int .i64 x] 3)).drew.cell? ⟨p, 0, none⟩ = some (.slice (some ⟨g, 0, none⟩) n cap) := (BB.out.cell (p := ⟨p, 0, none⟩) hpl).trans c0
        have d2 : (w.alloc (.cells #[.int .i64 x] 3)).cell? ⟨p, 0, none⟩ = some (.slice (some ⟨g, 0, none⟩) n cap) := d1
        have d3 : (w.alloc (.cells #[.int .i64 x] 3)).cell? ⟨p, 1, none⟩ = some (.int .i64 h) := (BB.out.cell (p := ⟨p, 1, none⟩) hpl).trans c1
        go_region_with (first | (go_at_call 27; refine (CI.out _ BB.out BN.out).mono ?_; rintro e w1 ⟨g1, k1, rfl, o1, gr1, at1⟩; have r1 : w1.cell? ⟨p, 0, none⟩ = some (.slice (some ⟨g, 0, none⟩) n cap) := (gr1.cell_far ⟨p, 0, none⟩ (Nat.lt_of_lt_of_le hpl BB.out.size) (some_ne h3)).trans d1; have r2 : w1.frozen? ⟨p, 0, none⟩ = false := (gr1.frozen_far ⟨p, 0, none⟩ (Nat.lt_of_lt_of_le hpl BB.out.size) (some_ne h3)).trans ((BB.out.frozen (p := ⟨p, 0, none⟩) hpl).trans fz)))
        all_goals (
          have hpg1 : p ≠ g1 := by
            rcases at1 with z | z
            · rw [z]; exact h3
            · have := BB.out.size; omega
          have FB := ((HB.out.below BB.out).kept gr1 (some_ne h3)).set 0 (.slice (some ⟨g1, 0, none⟩) (n + 1) k1)
          have FO := o1.of_eq (fun y hy => (grown_setCell' w1 p 0 (.slice (some ⟨g1, 0, none⟩) (n + 1) k1)).block y (o1.lt y hy) (by cases hy; exact some_ne (Ne.symm hpg1)))
          have FC : Ch (Two p g) w (w1.setCell ⟨p, 0, none⟩ (.slice (some ⟨g1, 0, none⟩) (n + 1) k1)) := ((Ch.below BB.out).same (Ch.grown gr1 (fun y hy => Or.inr (by cases hy; rfl)))).same (Ch.grown (grown_setCell' w1 p 0 _) (fun y hy => Or.inl (by cases hy; rfl)))
          have SC := SO.out _ g1 k1 FB FO hpg1
          have HFC : Hid (Ch (Two p g) w (w1.setCell ⟨p, 0, none⟩ (.slice (some ⟨g1, 0, none⟩) (n + 1) k1))) := FC
          have HAT : Hid (g1 = g ∨ w.heap.size ≤ g1) := at1.imp id (fun z => Nat.le_trans BB.out.size z)
          clear FB FO FC CI BN BB r1 r2 d1 d2 d3 gr1 o1 at1 SO c0 c1 HB HO CM CC
          generalize w1.setCell ⟨p, 0, none⟩ (.slice (some ⟨g1, 0, none⟩) (n + 1) k1) = w5 at *
          try rw [Exit.noGoto_normal]
          go_wp2_with (go_at_call 28; refine SC.mono ?_; rintro e w6 ⟨rfl, r6, k6⟩)
          go_ret
          exact ⟨_, _, rfl, HAD.out, g1, r6, HFC.out.trans k6 (fun _ q => q) (fun i q => Or.inl (Or.inl q)), HAT.out⟩)
theorem Add_ok {w : World} {p g : Nat} {L : List Int} (r : Rx w p g L) (x : Int) (hx : x < 9223372036854775808) :
    Calls Try.prog 10 #[.pointer (some ⟨p, 0, none⟩), .int .i64 x] w fun e w' => ∃ L' er, e = .returned (.int .i64 er) ∧ AdS L x L' er ∧ Tn w p g L' w' := by
  obtain ⟨l, h, r, rfl⟩ := r
  exact Add_n r x hx
end Go.Proofs.Ytimeoinmepfpnaa.Ri
