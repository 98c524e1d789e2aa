/- A ring that lies in memory; New, made, step, look; a function is asked; no condition but those that each theorem names. -/
import Derived.Test.YtimeoinmepfpnaaRh
namespace Go.Proofs.Ytimeoinmepfpnaa.Ri
open Go.ChangeShapes Go.WideShapes Go.ChangeAt Go.RowKit
set_option linter.unusedVariables false
set_option maxRecDepth 8192

/-- A ring at p, its numbers l in the block g, the hand at the place h. -/
structure Rn (w : World) (p g : Nat) (l : List Int) (h : Nat) : Prop where
  st : ∃ cap, Blk w p 53 [.slice (some ⟨g, 0, none⟩) l.length cap, .int .i64 h] ∧ Own w (.slice (some ⟨g, 0, none⟩) l.length cap) l
  ne : p ≠ g
  ok : Ok l
  hd : h < l.length ∨ (l = [] ∧ h = 0)
theorem Rn.hle {w : World} {p g h : Nat} {l : List Int} (r : Rn w p g l h) : h ≤ l.length := by
  rcases r.hd with q | ⟨_, q⟩ <;> omega
theorem Rn.pl {w : World} {p g h : Nat} {l : List Int} (r : Rn w p g l h) : p < w.heap.size := by
  obtain ⟨cap, h1, _⟩ := r.st
  exact h1.lt
theorem Rn.gl {w : World} {p g h : Nat} {l : List Int} (r : Rn w p g l h) : g < w.heap.size := by
  obtain ⟨cap, _, h2⟩ := r.st
  exact h2.lt g rfl
theorem Rn.of_eq {w w' : World} {p g h : Nat} {l : List Int} (r : Rn w p g l h) (e1 : w'.heap[p]? = w.heap[p]?) (e2 : w'.heap[g]? = w.heap[g]?) : Rn w' p g l h := by
  obtain ⟨⟨cap, h1, h2⟩, h3, h4, h5⟩ := r
  exact ⟨⟨cap, h1.of_eq e1, h2.of_eq (fun x hx => by cases hx; exact e2)⟩, h3, h4, h5⟩
theorem Rn.below {w w' : World} {p g h : Nat} {l : List Int} (r : Rn w p g l h) (k : Below w.heap.size w w') : Rn w' p g l h := r.of_eq (k.block p r.pl) (k.block g r.gl)
theorem Rn.ch {F : Nat → Prop} {w w' : World} {p g h : Nat} {l : List Int} (r : Rn w p g l h) (k : Ch F w w') (h1 : ¬ F p) (h2 : ¬ F g) : Rn w' p g l h := r.of_eq (k.block p r.pl h1) (k.block g r.gl h2)
/-- A pointer that is no ring: nil, or of a ring that New did not make. -/
def NoR (w : World) (q : Option Addr) : Prop := q = none ∨ ∃ p, q = some ⟨p, 0, none⟩ ∧ Blk w p 53 [.slice none 0 0, .int .i64 0]
theorem New_ok (w : World) : Calls Try.prog 8 #[] w fun e w' => e = .returned (.pointer (some ⟨w.heap.size + 1, 0, none⟩)) ∧ Rn w' (w.heap.size + 1) w.heap.size [] 0 ∧ Below w.heap.size w w' := by
  go_enter Try.func8, Try.ntmps8
  go_wp2
  go_ret
  have hB : Below w.heap.size w ((w.alloc (Obj.cells #[] 3)).alloc (Obj.cells #[Value.slice (some ⟨w.heap.size, 0, none⟩) 0 0, Value.int IntKind.i64 0] 53)) := bs (below1 _ _) (below1 _ _)
  have h1 : Blk ((w.alloc (Obj.cells #[] 3)).alloc (Obj.cells #[Value.slice (some ⟨w.heap.size, 0, none⟩) 0 0, Value.int IntKind.i64 0] 53)) w.heap.size 3 [] := (blk_new w [] 3).below (below1 _ _)
  have h2 := blk_new (w.alloc (Obj.cells #[] 3)) [.slice (some ⟨w.heap.size, 0, none⟩) 0 0, .int .i64 0] 53
  rw [show (w.alloc (Obj.cells #[] 3)).heap.size = w.heap.size + 1 by simp] at h2
  exact ⟨rfl, ⟨⟨0, h2, Own.of_blk (l := []) h1 (Nat.le_refl _) (Nat.zero_le _) rfl rfl⟩, by omega, Ok.nil, Or.inr ⟨rfl, rfl⟩⟩, hB⟩
theorem made_ok {w : World} {p g h : Nat} {l : List Int} (r : Rn w p g l h) : Calls Try.prog 25 #[.pointer (some ⟨p, 0, none⟩)] w fun e w' => e = .returned (.bool true) ∧ w' = w := by
  obtain ⟨cap, h1, _⟩ := r.st
  have c0 : w.cell? ⟨p, 0, none⟩ = some (.slice (some ⟨g, 0, none⟩) l.length cap) := h1.cell 0
  clear r h1
  generalize l.length = n at *
  go_enter Try.func25, Try.ntmps25
  go_wp2
  go_ret
  exact ⟨rfl, rfl⟩
theorem made_no {w : World} {q : Option Addr} (r : NoR w q) : Calls Try.prog 25 #[.pointer q] w fun e w' => e = .returned (.bool false) ∧ w' = w := by
  rcases r with rfl | ⟨p, rfl, h1⟩
  · go_enter Try.func25, Try.ntmps25
    go_wp2
    go_ret
    exact ⟨rfl, rfl⟩
  · have c0 : w.cell? ⟨p, 0, none⟩ = some (.slice none 0 0) := h1.cell 0
    clear h1
    go_enter Try.func25, Try.ntmps25
    go_wp2
    go_ret
    exact ⟨rfl, rfl⟩
def One (p : Nat) : Nat → Prop := fun k => k = p
theorem step_ok {w : World} {p g h : Nat} {l : List Int} (r : Rn w p g l h) (hl : 0 < l.length) : Calls Try.prog 28 #[.pointer (some ⟨p, 0, none⟩)] w fun e w' => e = .returned (.tuple #[]) ∧ Rn w' p g l ((h + 1) % l.length) ∧ Ch (One p) w w' := by
  obtain ⟨⟨cap, h1, h2⟩, h3, h4, h5⟩ := r
  have c0 : w.cell? ⟨p, 0, none⟩ = some (.slice (some ⟨g, 0, none⟩) l.length cap) := h1.cell 0
  have c1 : w.cell? ⟨p, 1, none⟩ = some (.int .i64 h) := h1.cell 1
  have fz : w.frozen? ⟨p, 1, none⟩ = false := h1.frozen 1
  have hle := h4.le
  have hh : h < l.length := by rcases h5 with q | ⟨q, _⟩; exact q; rw [q] at hl; simp at hl
  have END : Hid (∀ W, W = w.drew.setCell ⟨p, 1, none⟩ (.int .i64 (((h + 1) % l.length : Nat) : Int)) → Rn W p g l ((h + 1) % l.length) ∧ Ch (One p) w W) := fun W e => by
    subst e
    have hd := h1.set 1 (.int .i64 (((h + 1) % l.length : Nat) : Int))
    refine ⟨⟨⟨cap, hd, ?_⟩, h3, h4, Or.inl (Nat.mod_lt _ hl)⟩, ?_⟩
    · exact h2.of_eq (fun x hx => by
        cases hx
        exact (grown_setCell' w.drew p 1 _).block g (h2.lt g rfl) (some_ne (Ne.symm h3)))
    · exact Ch.grown ((grown_drew w _).trans (grown_setCell' w.drew p 1 _)) (fun x hx => by cases hx; rfl)
  have hm : ((h : Int) + 1).tmod (l.length : Int) = (((h + 1) % l.length : Nat) : Int) := by
    rw [Int.tmod_eq_emod_of_nonneg (by omega)]
    exact (Int.natCast_emod (h + 1) l.length).symm
  clear h1 h2 h4 h5
  generalize (h + 1) % l.length = h' at *
  generalize l.length = n at *
  go_enter Try.func28, Try.ntmps28
  go_region
  go_wp2
  go_end0
  exact ⟨rfl, END.out _ rfl⟩
theorem look_ok {w : World} {p g h : Nat} {l : List Int} (r : Rn w p g l h) (hl : h < l.length) : Calls Try.prog 33 #[.pointer (some ⟨p, 0, none⟩)] w fun e w' => e = .returned (.int .i64 l[h]) ∧ Rn w' p g l ((h + 1) % l.length) ∧ Ch (One p) w w' := by
  have SO : Hid (∀ W, Below w.heap.size w W → Calls Try.prog 28 #[.pointer (some ⟨p, 0, none⟩)] W fun e w' => e = .returned (.tuple #[]) ∧ Rn w' p g l ((h + 1) % l.length) ∧ Ch (One p) w w') := fun W hW => (step_ok (r.below hW) (by omega)).mono fun e w' ⟨h1, h2, h3⟩ => ⟨h1, h2, (Ch.below (F := One p) hW).same h3⟩
  obtain ⟨⟨cap, h1, h2⟩, h3, h4, h5⟩ := r
  have c0 : w.cell? ⟨p, 0, none⟩ = some (.slice (some ⟨g, 0, none⟩) l.length cap) := h1.cell 0
  have c1 : w.cell? ⟨p, 1, none⟩ = some (.int .i64 h) := h1.cell 1
  have c2 : w.cell? ⟨g, h, none⟩ = some (.int .i64 l[h]) := h2.cells (List.getElem?_eq_getElem hl)
  have hle := h4.le
  clear h1 h2 h4 h5
  generalize l[h] = x at *
  generalize hn : l.length = n at *
  generalize (h + 1) % n = h' at *
  go_enter Try.func33, Try.ntmps33
  go_wp2
  go_quiet (fail)
  go_wp2_with (go_at_call 28; refine (SO.out _ (below_drewN w _)).mono ?_; rintro e w1 ⟨rfl, r1, k1⟩)
  go_ret
  exact ⟨rfl, r1, k1⟩
/-- The deferred closure of unused, where nothing panicked. -/
theorem idle_ok (w : World) : CallsD Try.prog 41 #[] .returning w fun e u' w' => e = .returned (.tuple #[]) ∧ u' = .returning ∧ w' = w := by
  refine callsD_of_wpS Try.func41 rfl fun c₀ cs hu => ?_
  apply wpS_region
  simp [wpOpsS, go_sem, recoverD, hu, Try.ntmps41]
  cases c₀
  simp_all [bodyPostS, results, Try.results41]
theorem unused_ok {w : World} {M : Nat} {fst : Array Value} {x : Int} {b : Bool} {R : World → Prop} (hE : ∀ args (w : World), (callFunc M args).run Try.prog w = .ok (.enter M args) w) (HU : Calls Try.prog M (fst.push (.int .i64 x)) w fun e w' => e = .returned (.bool b) ∧ R w') :
    Calls Try.prog 34 #[.func (.func M) fst #[], .int .i64 x] w fun e w' => e = .returned (.bool !b) ∧ R w' := by
  go_enter_defers Try.func34, Try.ntmps34
  go_wp2
  refine HU.mono ?_
  rintro e w1 ⟨rfl, hR⟩
  go_wp2
  refine leaves_cons (f := 41) (args := #[]) (by simp) (by simp [go_sem]) ?_
  refine (idle_ok _).mono ?_
  rintro e u' w'' ⟨rfl, rfl, rfl⟩
  simp [Leaves, settle, results, Try.results34, go_sem]
  exact hR
end Go.Proofs.Ytimeoinmepfpnaa.Ri
