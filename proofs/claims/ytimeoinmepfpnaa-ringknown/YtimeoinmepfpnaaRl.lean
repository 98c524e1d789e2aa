/- List of a ring: its row, in new memory; no condition but a ring. -/
import Derived.Test.YtimeoinmepfpnaaRk
namespace Go.Proofs.Ytimeoinmepfpnaa.Ri
open Go.ChangeShapes Go.WideShapes Go.ChangeAt Go.RowKit
set_option linter.unusedVariables false
set_option maxRecDepth 8192

/-- A row in new memory. -/
def Nw (w : World) (v : Value) (L : List Int) (w' : World) : Prop := Own w' v L ∧ Below w.heap.size w w' ∧ ∀ g, v.ownBlock = some g → w.heap.size ≤ g
theorem Remove_ok {w : World} {p g : Nat} {L : List Int} (r : Rx w p g L) (x : Int) :
    Calls Try.prog 20 #[.pointer (some ⟨p, 0, none⟩), .int .i64 x] w fun e w' => ∃ L' er, e = .returned (.int .i64 er) ∧ RmS L x L' er ∧ Tn w p g L' w' := by
  obtain ⟨l, h, r, rfl⟩ := r
  exact Remove_n r x
theorem sl_from (g n cap h : Nat) (hn : n ≤ cap) (hh : h < n ∨ (n = 0 ∧ h = 0)) (W : World) : (Instr.sliceAt 33 (.slice (some ⟨g, 0, none⟩) n cap) (some (.int .i64 h)) none none).run Try.prog W = .ok (.slice (some ⟨g, h, none⟩) (n - h) (cap - h)) W := by
  have h1 : h ≤ n := by omega
  by_cases z : cap = h
  · obtain rfl : h = 0 := by omega
    subst z
    simp [Instr.sliceAt, go_sem, run_underlying Try.underlying33, hn]
  · simp [Instr.sliceAt, go_sem, run_underlying Try.underlying33, h1, z]
theorem sl_upto (g n cap h : Nat) (hn : n ≤ cap) (hh : h ≤ n) (W : World) : (Instr.sliceAt 33 (.slice (some ⟨g, 0, none⟩) n cap) none (some (.int .i64 h)) none).run Try.prog W = .ok (.slice (some ⟨g, 0, none⟩) h cap) W := by
  have h2 : h ≤ cap := by omega
  simp [Instr.sliceAt, go_sem, run_underlying Try.underlying33, h2]
set_option maxHeartbeats 1000000 in
theorem List_n {w : World} {p g h : Nat} {l : List Int} (r : Rn w p g l h) :
    Calls Try.prog 13 #[.pointer (some ⟨p, 0, none⟩)] w fun e w' => ∃ v, e = .returned v ∧ Nw w v (rw_ l h) w' := by
  have CM := made_ok r
  have hhl := r.hle
  have hhd : h < l.length ∨ (l.length = 0 ∧ h = 0) := r.hd.imp id (fun q => ⟨by rw [q.1]; rfl, q.2⟩)
  obtain ⟨⟨cap, h1, h2⟩, h3, h4, h5⟩ := r
  have hle := h4.le
  have hcap := h2.cap
  have c0 : w.cell? ⟨p, 0, none⟩ = some (.slice (some ⟨g, 0, none⟩) l.length cap) := h1.cell 0
  have c1 : w.cell? ⟨p, 1, none⟩ = some (.int .i64 h) := h1.cell 1
  have CC : Hid (∀ W, Below w.heap.size w W → Blk W w.heap.size 33 [.slice (some ⟨g, h, none⟩) (l.length - h) (cap - h), .slice (some ⟨g, 0, none⟩) h cap] → Calls Try.prog 32 #[.slice (some ⟨w.heap.size, 0, none⟩) 2 2] W fun e w' => ∃ v, e = .returned v ∧ Nw w v (rw_ l h) w') := fun W hW hb => by
    refine (Concat_ok ((h2.below hW).from hhl _) ((h2.below hW).upto hhl _) (by rw [List.length_drop]) (by rw [List.length_take]; omega) hb (by omega)).mono ?_
    rintro e w' ⟨v, rfl, o, b, f⟩
    exact ⟨v, rfl, o, bs hW b, fun x hx => Nat.le_trans hW.size (f x hx)⟩
  have BN : Hid (Blk (w.alloc (.cells #[.slice (some ⟨g, h, none⟩) (l.length - h) (cap - h), .slice (some ⟨g, 0, none⟩) h cap] 33)).drew w.heap.size 33 [.slice (some ⟨g, h, none⟩) (l.length - h) (cap - h), .slice (some ⟨g, 0, none⟩) h cap]) := blk_new w [_, _] 33
  have BB : Hid (Below w.heap.size w (w.alloc (.cells #[.slice (some ⟨g, h, none⟩) (l.length - h) (cap - h), .slice (some ⟨g, 0, none⟩) h cap] 33)).drew) := ((Below.refl _ w).alloc (Nat.le_refl _) _).drew
  have hpl : p < w.heap.size := h1.lt
  clear h1 h2 h4 h5
  generalize rw_ l h = L at *
  generalize l.length = n at *
  have s1 := fun W => sl_from g n cap h hcap.1 hhd W
  have s2 := fun W => sl_upto g n cap h hcap.1 hhl W
  go_enter Try.func13, Try.ntmps13
  go_wp2_with (go_at_call 25; refine CM.mono ?_; rintro e w' ⟨rfl, hw⟩; obtain rfl := hw.symm)
  go_region_held3 (fun W => W.cell? ⟨p, 0, none⟩ = some (.slice (some ⟨g, 0, none⟩) n cap) ∧ W.cell? ⟨p, 1, none⟩ = some (.int .i64 h)) (first | exact ⟨c0, c1⟩ | exact ⟨e0, e1⟩ | go_keep) ((go_at_call 32; refine (CC.out _ BB.out BN.out).mono ?_; rintro e w1 ⟨v, rfl, hv⟩; have HV : Hid (Nw w v L w1) := hv; have e0 : w1.cell? ⟨p, 0, none⟩ = some (.slice (some ⟨g, 0, none⟩) n cap) := (hv.2.1.cell (p := ⟨p, 0, none⟩) hpl).trans c0; have e1 : w1.cell? ⟨p, 1, none⟩ = some (.int .i64 h) := (hv.2.1.cell (p := ⟨p, 1, none⟩) hpl).trans c1; clear hv))
  go_wp2
  go_ret
  exact ⟨v, rfl, HV.out⟩
theorem List_ok {w : World} {p g : Nat} {L : List Int} (r : Rx w p g L) :
    Calls Try.prog 13 #[.pointer (some ⟨p, 0, none⟩)] w fun e w' => ∃ v, e = .returned v ∧ Nw w v L w' := by
  obtain ⟨l, h, r, rfl⟩ := r
  exact List_n r
end Go.Proofs.Ytimeoinmepfpnaa.Ri
