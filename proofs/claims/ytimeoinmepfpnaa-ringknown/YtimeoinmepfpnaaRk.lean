/- Remove, List of a ring; no condition but a ring. -/
import Derived.Test.YtimeoinmepfpnaaRj
namespace Go.Proofs.Ytimeoinmepfpnaa.Ri
open Go.ChangeShapes Go.WideShapes Go.ChangeAt Go.RowKit
set_option linter.unusedVariables false
set_option maxRecDepth 8192

theorem erase_split (l : List Int) (i : Nat) : l.take i ++ l.drop (i + 1) = l.eraseIdx i := (List.eraseIdx_eq_take_drop_succ l i).symm
/-- Where the hand stands behind a Remove of the one at the place i. -/
def hq (n h i : Nat) : Nat := if i < h then h - 1 else if h = n - 1 then 0 else h
theorem hq_rw {l : List Int} {h i : Nat} (hn : l.Nodup) (hi : i < l.length) (hh : h < l.length) : rw_ (l.eraseIdx i) (hq l.length h i) = (rw_ l h).erase l[i] := by
  have hle : (l.eraseIdx i).length = l.length - 1 := List.length_eraseIdx_of_lt hi
  unfold hq
  split
  · rename_i q
    exact rw_rm_lo hn q (by omega)
  · rename_i q
    split
    · rename_i z
      rw [← rw_rm_hi hn hi (by omega : h ≤ i), rw_zero, show h = (l.eraseIdx i).length by omega, rw_full]
    · exact rw_rm_hi hn hi (by omega)
theorem hq_hd {l : List Int} {h i : Nat} (hi : i < l.length) (hh : h < l.length) : hq l.length h i < (l.eraseIdx i).length ∨ (l.eraseIdx i = [] ∧ hq l.length h i = 0) := by
  have hle : (l.eraseIdx i).length = l.length - 1 := List.length_eraseIdx_of_lt hi
  by_cases z : l.length = 1
  · right
    refine ⟨List.eq_nil_of_length_eq_zero (by omega), ?_⟩
    unfold hq
    rw [if_neg (by omega), if_pos (by omega)]
  · left
    rw [hle]
    unfold hq
    split
    · omega
    · split
      · omega
      · omega
set_option maxHeartbeats 1000000 in
theorem Remove_n {w : World} {p g h : Nat} {l : List Int} (r : Rn w p g l h) (x : Int) :
    Calls Try.prog 20 #[.pointer (some ⟨p, 0, none⟩), .int .i64 x] w fun e w' => ∃ L' er, e = .returned (.int .i64 er) ∧ RmS (rw_ l h) x L' er ∧ Tn w p g L' w' := by
  have CM := made_ok r
  have HR : Hid (Rn w p g l h) := r
  obtain ⟨⟨cap, h1, h2⟩, h3, h4, h5⟩ := r
  have hle := h4.le
  have c0 : w.cell? ⟨p, 0, none⟩ = some (.slice (some ⟨g, 0, none⟩) l.length cap) := h1.cell 0
  have c1 : w.cell? ⟨p, 1, none⟩ = some (.int .i64 h) := h1.cell 1
  have fz0 : w.frozen? ⟨p, 0, none⟩ = false := h1.frozen 0
  have fz1 : w.frozen? ⟨p, 1, none⟩ = false := h1.frozen 1
  rcases plc_or l x with ⟨i, hi⟩ | hi
  · have CC : Hid (Calls _ _ _ _ _) := Index_at h2 (by omega) hi
    have hil := hi.lt
    have hh : h < l.length := by rcases h5 with q | ⟨q, _⟩; exact q; rw [q] at hil; simp at hil
    have hli : l[i]'hil = x := (List.getElem?_eq_some_iff.1 hi.1).2
    have hle2 : (l.eraseIdx i).length = l.length - 1 := List.length_eraseIdx_of_lt hil
    have hpl : p < w.heap.size := h1.lt
    have CD : Hid (Calls _ _ _ _ _) := Delete_ok h2 h2.cap.1 h2.cap.2 i hil
    rw [erase_split] at CD
    have HRM : Hid (RmS (rw_ l h) x (rw_ (l.eraseIdx i) (hq l.length h i)) 0) := Or.inl ⟨rw_mem.2 hi.mem, by rw [hq_rw h4.nd hil hh, hli], rfl⟩
    have HOK : Hid (Ok (l.eraseIdx i)) := ⟨fun y hy => h4.nn y (List.mem_of_mem_eraseIdx hy), fun y hy => h4.up y (List.mem_of_mem_eraseIdx hy), (List.eraseIdx_sublist l i).nodup h4.nd, by rw [hle2]; omega⟩
    have HB : Hid (Blk w p 53 [.slice (some ⟨g, 0, none⟩) l.length cap, .int .i64 h]) := h1
    have HHD := hq_hd hil hh
    have FIN : Hid (∀ W, Blk W p 53 [.slice (some ⟨g, 0, none⟩) (l.length - 1) cap, .int .i64 (hq l.length h i : Nat)] → Own W (.slice (some ⟨g, 0, none⟩) (l.length - 1) cap) (l.eraseIdx i) → Ch (Two p g) w W → Tn w p g (rw_ (l.eraseIdx i) (hq l.length h i)) W) := fun W q1 q2 q3 => by
      rw [← hle2] at q1 q2
      exact ⟨g, ⟨_, _, ⟨⟨cap, q1, q2⟩, h3, HOK.out, HHD⟩, rfl⟩, q3, Or.inl rfl⟩
    clear h1 h2 h4 h5 hi hli hle2 HOK HHD
    generalize l.eraseIdx i = l' at *
    generalize hn : l.length = n at *
    clear hn
    have hpg : Hid (p ≠ g) := h3
    by_cases hih : i < h
    · have HQ : Hid (hq n h i = h - 1) := by unfold Hid hq; rw [if_pos hih]
      go_enter Try.func20, Try.ntmps20
      go_wp2_with (first | (go_at_call 25; refine CM.mono ?_; rintro e w' ⟨rfl, hw⟩; obtain rfl := hw.symm) | (go_at_call 35; refine CC.out.mono ?_; rintro e w' ⟨rfl, hw⟩; obtain rfl := hw.symm) | (go_at_call 36; refine CD.out.mono ?_; rintro e w1 ⟨rfl, gr1, o1⟩; have r0 : w1.cell? ⟨p, 0, none⟩ = some (.slice (some ⟨g, 0, none⟩) n cap) := (gr1.cell_far ⟨p, 0, none⟩ hpl (some_ne h3)).trans c0; have r1 : w1.cell? ⟨p, 1, none⟩ = some (.int .i64 h) := (gr1.cell_far ⟨p, 1, none⟩ hpl (some_ne h3)).trans c1; have z0 : w1.frozen? ⟨p, 0, none⟩ = false := (gr1.frozen_far ⟨p, 0, none⟩ hpl (some_ne h3)).trans fz0; have z1 : w1.frozen? ⟨p, 1, none⟩ = false := (gr1.frozen_far ⟨p, 1, none⟩ hpl (some_ne h3)).trans fz1))
      have B2 := (((HB.out.kept gr1 (some_ne h3)).set 0 (.slice (some ⟨g, 0, none⟩) (n - 1) cap)).set 1 (.int .i64 ((h : Int) - 1)))
      have O2 := (o1.of_eq (fun y hy => (grown_setCell' w1 p 0 (.slice (some ⟨g, 0, none⟩) (n - 1) cap)).block y (o1.lt y hy) (by cases hy; exact some_ne (Ne.symm h3)))).of_eq (fun y hy => (grown_setCell' (w1.setCell ⟨p, 0, none⟩ (.slice (some ⟨g, 0, none⟩) (n - 1) cap)) p 1 (.int .i64 ((h : Int) - 1))).block y (by simpa [World.setCell] using o1.lt y hy) (by cases hy; exact some_ne (Ne.symm h3)))
      have C2 := (((Ch.grown gr1 (fun y hy => Or.inr (by cases hy; rfl)) : Ch (Two p g) w w1).same (Ch.grown (grown_setCell' w1 p 0 (.slice (some ⟨g, 0, none⟩) (n - 1) cap)) (fun y hy => Or.inl (by cases hy; rfl))))).same (Ch.grown (grown_setCell' _ p 1 (.int .i64 ((h : Int) - 1))) (fun y hy => Or.inl (by cases hy; rfl)))
      have HBB : Hid (Blk ((w1.setCell ⟨p, 0, none⟩ (.slice (some ⟨g, 0, none⟩) (n - 1) cap)).setCell ⟨p, 1, none⟩ (.int .i64 ((h : Int) - 1))) p 53 [.slice (some ⟨g, 0, none⟩) (n - 1) cap, .int .i64 ((h : Int) - 1)]) := B2
      have HOO : Hid (Own ((w1.setCell ⟨p, 0, none⟩ (.slice (some ⟨g, 0, none⟩) (n - 1) cap)).setCell ⟨p, 1, none⟩ (.int .i64 ((h : Int) - 1))) (.slice (some ⟨g, 0, none⟩) (n - 1) cap) l') := O2
      have HCC : Hid (Ch (Two p g) w ((w1.setCell ⟨p, 0, none⟩ (.slice (some ⟨g, 0, none⟩) (n - 1) cap)).setCell ⟨p, 1, none⟩ (.int .i64 ((h : Int) - 1)))) := C2
      have k0 : ((w1.setCell ⟨p, 0, none⟩ (.slice (some ⟨g, 0, none⟩) (n - 1) cap)).setCell ⟨p, 1, none⟩ (.int .i64 ((h : Int) - 1))).cell? ⟨p, 0, none⟩ = some (.slice (some ⟨g, 0, none⟩) (n - 1) cap) := HBB.out.cell 0
      have k1 : ((w1.setCell ⟨p, 0, none⟩ (.slice (some ⟨g, 0, none⟩) (n - 1) cap)).setCell ⟨p, 1, none⟩ (.int .i64 ((h : Int) - 1))).cell? ⟨p, 1, none⟩ = some (.int .i64 ((h : Int) - 1)) := HBB.out.cell 1
      have kz : ((w1.setCell ⟨p, 0, none⟩ (.slice (some ⟨g, 0, none⟩) (n - 1) cap)).setCell ⟨p, 1, none⟩ (.int .i64 ((h : Int) - 1))).frozen? ⟨p, 1, none⟩ = false := HBB.out.frozen 1
      clear B2 O2 C2 r0 r1 z0 z1 gr1 o1 c0 c1 fz0 fz1 HB CM CC CD
      generalize ((w1.setCell ⟨p, 0, none⟩ (.slice (some ⟨g, 0, none⟩) (n - 1) cap)).setCell ⟨p, 1, none⟩ (.int .i64 ((h : Int) - 1))) = w5 at *
      have HV : Hid ((h : Int) - 1 = ((hq n h i : Nat) : Int)) := by unfold Hid; rw [HQ.out]; omega
      have hne : ¬ ((h : Int) - 1 = ((n - 1 : Nat) : Int)) := by omega
      go_quiet (fail)
      go_wp2
      go_ret
      exact ⟨_, _, rfl, HRM.out, FIN.out _ (by rw [← HV.out]; exact HBB.out.below (below_drewN _ _)) (HOO.out.below (below_drewN _ _)) (HCC.out.same (Ch.below (below_drewN _ _)))⟩
    · by_cases hz : h = n - 1
      · have HQ : Hid (hq n h i = 0) := by unfold Hid hq; rw [if_neg hih, if_pos hz]
        go_enter Try.func20, Try.ntmps20
        go_wp2_with (first | (go_at_call 25; refine CM.mono ?_; rintro e w' ⟨rfl, hw⟩; obtain rfl := hw.symm) | (go_at_call 35; refine CC.out.mono ?_; rintro e w' ⟨rfl, hw⟩; obtain rfl := hw.symm) | (go_at_call 36; refine CD.out.mono ?_; rintro e w1 ⟨rfl, gr1, o1⟩; have r0 : w1.cell? ⟨p, 0, none⟩ = some (.slice (some ⟨g, 0, none⟩) n cap) := (gr1.cell_far ⟨p, 0, none⟩ hpl (some_ne h3)).trans c0; have r1 : w1.cell? ⟨p, 1, none⟩ = some (.int .i64 h) := (gr1.cell_far ⟨p, 1, none⟩ hpl (some_ne h3)).trans c1; have z0 : w1.frozen? ⟨p, 0, none⟩ = false := (gr1.frozen_far ⟨p, 0, none⟩ hpl (some_ne h3)).trans fz0; have z1 : w1.frozen? ⟨p, 1, none⟩ = false := (gr1.frozen_far ⟨p, 1, none⟩ hpl (some_ne h3)).trans fz1))
        have B2 := ((HB.out.kept gr1 (some_ne h3)).set 0 (.slice (some ⟨g, 0, none⟩) (n - 1) cap))
        have O2 := (o1.of_eq (fun y hy => (grown_setCell' w1 p 0 (.slice (some ⟨g, 0, none⟩) (n - 1) cap)).block y (o1.lt y hy) (by cases hy; exact some_ne (Ne.symm h3))))
        have C2 := (((Ch.grown gr1 (fun y hy => Or.inr (by cases hy; rfl)) : Ch (Two p g) w w1).same (Ch.grown (grown_setCell' w1 p 0 (.slice (some ⟨g, 0, none⟩) (n - 1) cap)) (fun y hy => Or.inl (by cases hy; rfl)))))
        have HBB : Hid (Blk (w1.setCell ⟨p, 0, none⟩ (.slice (some ⟨g, 0, none⟩) (n - 1) cap)) p 53 [.slice (some ⟨g, 0, none⟩) (n - 1) cap, .int .i64 h]) := B2
        have HOO : Hid (Own (w1.setCell ⟨p, 0, none⟩ (.slice (some ⟨g, 0, none⟩) (n - 1) cap)) (.slice (some ⟨g, 0, none⟩) (n - 1) cap) l') := O2
        have HCC : Hid (Ch (Two p g) w (w1.setCell ⟨p, 0, none⟩ (.slice (some ⟨g, 0, none⟩) (n - 1) cap))) := C2
        have k0 : (w1.setCell ⟨p, 0, none⟩ (.slice (some ⟨g, 0, none⟩) (n - 1) cap)).cell? ⟨p, 0, none⟩ = some (.slice (some ⟨g, 0, none⟩) (n - 1) cap) := HBB.out.cell 0
        have k1 : (w1.setCell ⟨p, 0, none⟩ (.slice (some ⟨g, 0, none⟩) (n - 1) cap)).cell? ⟨p, 1, none⟩ = some (.int .i64 h) := HBB.out.cell 1
        have kz : (w1.setCell ⟨p, 0, none⟩ (.slice (some ⟨g, 0, none⟩) (n - 1) cap)).frozen? ⟨p, 1, none⟩ = false := HBB.out.frozen 1
        clear B2 O2 C2 r0 r1 z0 z1 gr1 o1 c0 c1 fz0 fz1 HB CM CC CD
        generalize (w1.setCell ⟨p, 0, none⟩ (.slice (some ⟨g, 0, none⟩) (n - 1) cap)) = w5 at *
        have hee : ((h : Int) = ((n - 1 : Nat) : Int)) := by omega
        go_quiet (fail)
        go_wp2
        go_ret
        have hlt := HOO.out.lt g rfl
        have BX := (HBB.out.below (below_drewN w5 nq)).set 1 (.int .i64 0)
        refine ⟨_, _, rfl, HRM.out, FIN.out _ (by rw [HQ.out]; exact BX) ((HOO.out.below (below_drewN w5 nq)).of_eq (fun y hy => (grown_setCell' _ p 1 _).block y (by cases hy; exact hlt) (by cases hy; exact some_ne (Ne.symm hpg.out)))) ((HCC.out.same (Ch.below (below_drewN w5 nq))).same (Ch.grown (grown_setCell' _ p 1 _) (fun y hy => Or.inl (by cases hy; rfl))))⟩
      · have HQ : Hid (hq n h i = h) := by unfold Hid hq; rw [if_neg hih, if_neg hz]
        go_enter Try.func20, Try.ntmps20
        go_wp2_with (first | (go_at_call 25; refine CM.mono ?_; rintro e w' ⟨rfl, hw⟩; obtain rfl := hw.symm) | (go_at_call 35; refine CC.out.mono ?_; rintro e w' ⟨rfl, hw⟩; obtain rfl := hw.symm) | (go_at_call 36; refine CD.out.mono ?_; rintro e w1 ⟨rfl, gr1, o1⟩; have r0 : w1.cell? ⟨p, 0, none⟩ = some (.slice (some ⟨g, 0, none⟩) n cap) := (gr1.cell_far ⟨p, 0, none⟩ hpl (some_ne h3)).trans c0; have r1 : w1.cell? ⟨p, 1, none⟩ = some (.int .i64 h) := (gr1.cell_far ⟨p, 1, none⟩ hpl (some_ne h3)).trans c1; have z0 : w1.frozen? ⟨p, 0, none⟩ = false := (gr1.frozen_far ⟨p, 0, none⟩ hpl (some_ne h3)).trans fz0; have z1 : w1.frozen? ⟨p, 1, none⟩ = false := (gr1.frozen_far ⟨p, 1, none⟩ hpl (some_ne h3)).trans fz1))
        have B2 := ((HB.out.kept gr1 (some_ne h3)).set 0 (.slice (some ⟨g, 0, none⟩) (n - 1) cap))
        have O2 := (o1.of_eq (fun y hy => (grown_setCell' w1 p 0 (.slice (some ⟨g, 0, none⟩) (n - 1) cap)).block y (o1.lt y hy) (by cases hy; exact some_ne (Ne.symm h3))))
        have C2 := (((Ch.grown gr1 (fun y hy => Or.inr (by cases hy; rfl)) : Ch (Two p g) w w1).same (Ch.grown (grown_setCell' w1 p 0 (.slice (some ⟨g, 0, none⟩) (n - 1) cap)) (fun y hy => Or.inl (by cases hy; rfl)))))
        have HBB : Hid (Blk (w1.setCell ⟨p, 0, none⟩ (.slice (some ⟨g, 0, none⟩) (n - 1) cap)) p 53 [.slice (some ⟨g, 0, none⟩) (n - 1) cap, .int .i64 h]) := B2
        have HOO : Hid (Own (w1.setCell ⟨p, 0, none⟩ (.slice (some ⟨g, 0, none⟩) (n - 1) cap)) (.slice (some ⟨g, 0, none⟩) (n - 1) cap) l') := O2
        have HCC : Hid (Ch (Two p g) w (w1.setCell ⟨p, 0, none⟩ (.slice (some ⟨g, 0, none⟩) (n - 1) cap))) := C2
        have k0 : (w1.setCell ⟨p, 0, none⟩ (.slice (some ⟨g, 0, none⟩) (n - 1) cap)).cell? ⟨p, 0, none⟩ = some (.slice (some ⟨g, 0, none⟩) (n - 1) cap) := HBB.out.cell 0
        have k1 : (w1.setCell ⟨p, 0, none⟩ (.slice (some ⟨g, 0, none⟩) (n - 1) cap)).cell? ⟨p, 1, none⟩ = some (.int .i64 h) := HBB.out.cell 1
        have kz : (w1.setCell ⟨p, 0, none⟩ (.slice (some ⟨g, 0, none⟩) (n - 1) cap)).frozen? ⟨p, 1, none⟩ = false := HBB.out.frozen 1
        clear B2 O2 C2 r0 r1 z0 z1 gr1 o1 c0 c1 fz0 fz1 HB CM CC CD
        generalize (w1.setCell ⟨p, 0, none⟩ (.slice (some ⟨g, 0, none⟩) (n - 1) cap)) = w5 at *
        have hee : ¬ ((h : Int) = ((n - 1 : Nat) : Int)) := by omega
        go_quiet (fail)
        go_wp2
        go_ret
        exact ⟨_, _, rfl, HRM.out, FIN.out _ (by rw [HQ.out]; exact HBB.out.below (below_drewN _ _)) (HOO.out.below (below_drewN _ _)) (HCC.out.same (Ch.below (below_drewN _ _)))⟩
  · have CC : Hid (Calls _ _ _ _ _) := Index_no h2 (by omega) hi
    have HM : Hid (x ∉ rw_ l h) := fun q => hi (rw_mem.1 q)
    clear h1 h2 h4 h5 hi
    generalize l.length = n at *
    go_enter Try.func20, Try.ntmps20
    go_wp2_with (first | (go_at_call 25; refine CM.mono ?_; rintro e w' ⟨rfl, hw⟩; obtain rfl := hw.symm) | (go_at_call 35; refine CC.out.mono ?_; rintro e w' ⟨rfl, hw⟩; obtain rfl := hw.symm))
    go_ret
    exact ⟨_, _, rfl, Or.inr ⟨HM.out, rfl, rfl⟩, Tn.same ⟨l, h, HR.out, rfl⟩⟩
end Go.Proofs.Ytimeoinmepfpnaa.Ri
