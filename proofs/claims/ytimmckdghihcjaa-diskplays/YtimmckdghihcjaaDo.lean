/- The statement's one step: what is done to both disks is answered alike, and they hold alike behind it. -/
import Derived.Test.YtimmckdghihcjaaWr
namespace Go.Proofs.Ytimmckdghihcjaa
open Go.ChangeShapes Go.WideShapes Go.ChangeAt Go.RowKit
set_option linter.unusedVariables false

theorem kind3 (k : Int) : k % 3 = 0 ∨ k % 3 = 1 ∨ k % 3 = 2 := by omega
set_option maxRecDepth 100000 in
set_option maxHeartbeats 1000000 in
theorem done_any {mv rv : Option Addr} {B T : Nat} {S : St} (O : Orc mv rv B S) (m : Slots) (w : World) (hS : S m m T [] w) {Kind Slot : Int} {aB : Option Addr} {lB cB : Nat} {fB : Nat → Int} (hD : DoIn B w Kind Slot aB lB cB fB) :
    Calls Try.prog 10 #[.pointer mv, .pointer rv, .agg #[.int .i64 Kind, .int .i64 Slot, .slice aB lB cB]] w fun e w' => e = .returned (.bool true) ∧ (∃ m', S m' m' w'.heap.size [] w') ∧ Below B w w' := by
  have HO : Hid (Orc mv rv B S) := O
  have HS : Hid (S m m T [] w) := hS
  have HD : Hid (DoIn B w Kind Slot aB lB cB fB) := hD
  obtain ⟨hBT, hT⟩ := O.size _ _ _ _ _ hS
  obtain ⟨hk0, hk1⟩ := hD.kind
  clear O hS hD
  have hbx := bx_new w #[.int .i64 Kind, .int .i64 Slot, .slice aB lB cB] 34
  have gbx := World.grownBy_alloc w (.cells #[.int .i64 Kind, .int .i64 Slot, .slice aB lB cB] 34) none
  have h1 : (w.alloc (.cells #[.int .i64 Kind, .int .i64 Slot, .slice aB lB cB] 34)).heap.size = w.heap.size + 1 := by simp
  generalize hw1 : w.alloc (.cells #[.int .i64 Kind, .int .i64 Slot, .slice aB lB cB] 34) = w1 at *
  have HW1 : Hid (w.alloc (.cells #[.int .i64 Kind, .int .i64 Slot, .slice aB lB cB] 34) = w1) := hw1
  have HBX : Hid (Bx w1 w.heap.size [.int .i64 Kind, .int .i64 Slot, .slice aB lB cB]) := hbx
  have HS1 : Hid (S m m T [w.heap.size] w1) := HO.out.add _ _ _ _ _ _ (HO.out.grow HS.out gbx) hT (by omega)
  have hB1 : Below B w w1 := (Below.refl _ _).grown gbx (by omega) (by simp)
  have HD1 : Hid (DoIn B w1 Kind Slot aB lB cB fB) := HD.out.below hB1
  have HB1 : Hid (Below B w w1) := hB1
  clear hbx gbx HD HS hB1 hw1
  go_enter Try.func10, Try.ntmps10
  go_wp2_with fail
  rw [HW1.out]
  clear HW1
  refine (kind_any Kind 3 (by omega) (by omega) hk0 hk1 w1).mono ?_
  rintro e w1 ⟨rfl, rfl⟩
  have c0 := HBX.out.2 0 _ rfl
  have c1 := HBX.out.2 1 _ rfl
  have c2 := HBX.out.2 2 _ rfl
  rcases kind3 Kind with hk | hk | hk <;> rw [hk] <;> clear hk hk0 hk1
  · go_wp2_with fail
    refine (write_any HO.out m w1 (HO.out.sub _ _ _ _ _ _ HS1.out) HD1.out).mono ?_
    rintro e w2 ⟨rfl, ⟨m', hS2⟩, hb2⟩
    have HS2 : Hid (S m' m' w2.heap.size [] w2) := hS2
    have HB2 : Hid (Below B w w2) := HB1.out.trans hb2
    clear hb2 hS2
    go_wp2
    go_ret
    exact ⟨rfl, ⟨m', HS2.out⟩, HB2.out⟩
  · go_wp2_with fail
    refine (read_any HO.out m Slot w1 HS1.out).mono ?_
    rintro e w2 ⟨rfl, hb2⟩
    have HS2 : Hid (S m m w2.heap.size [] w2) := HO.out.up _ _ _ _ _ (HO.out.sub _ _ _ _ _ _ (HO.out.grow HS1.out (below_grow hb2)))
    have HB2 : Hid (Below B w w2) := HB1.out.trans (hb2.mono (by omega))
    clear hb2
    go_wp2
    go_ret
    exact ⟨rfl, ⟨m, HS2.out⟩, HB2.out⟩
  · obtain ⟨m', er, C1, C2⟩ := HO.out.erase m Slot
    have HC1 : Hid (∀ W m2 T A, S m m2 T A W → Calls Try.prog 20 #[.pointer mv, .int .i64 Slot] W fun e W' => e = .returned (.int .i64 er) ∧ S m' m2 T A W' ∧ Ch2 B A W W') := C1
    have HC2 : Hid (∀ W m1 T A, S m1 m T A W → Calls Try.prog 25 #[.pointer rv, .int .i64 Slot] W fun e W' => e = .returned (.int .i64 er) ∧ S m1 m' T A W' ∧ Ch2 B A W W') := C2
    clear C1 C2
    have HSd : Hid (S m m T [w.heap.size] w1.drew) := HO.out.grow HS1.out (grown_drewN _ 1 _)
    have HXd : Hid (Bx w1.drew w.heap.size _) := HBX.out.kept (grown_drewN _ 1 none) (by simp)
    have HBd : Hid (Below B w w1.drew) := HB1.out.drew
    go_wp2_with fail
    go_region_held3 (fun w' => w'.cell? ⟨w.heap.size, 1, none⟩ = some (.int .i64 Slot))
      (first | exact (HX4.out.2 1 _ rfl) | exact (HX3.out.2 1 _ rfl) | exact (HXd.out.2 1 _ rfl))
      (first
        | (go_at_call 20; refine (HC1.out w1.drew m T [w.heap.size] HSd.out).mono ?_; rintro e w3 ⟨rfl, hS3, hch⟩; have HS3 : Hid (S m' m T [w.heap.size] w3) := hS3; have HX3 : Hid (Bx w3 w.heap.size _) := hch.bx HXd.out (by simp); have HB3 : Hid (Below B w w3) := HBd.out.trans (hch.below (Nat.le_trans (by omega) HBd.out.size)); clear hS3 hch)
        | (go_at_call 25; refine (HC2.out _ m' T [w.heap.size] HS3.out).mono ?_; rintro e w4 ⟨rfl, hS4, hch⟩; have HS4 : Hid (S m' m' T [w.heap.size] w4) := hS4; have HX4 : Hid (Bx w4 w.heap.size _) := hch.bx HX3.out (by simp); have HB4 : Hid (Below B w w4) := HB3.out.trans (hch.below (Nat.le_trans (by omega) HB3.out.size)); clear hS4 hch))
    go_wp2
    go_ret
    exact ⟨rfl, ⟨m', HO.out.up _ _ _ _ _ (HO.out.sub _ _ _ _ _ _ HS4.out)⟩, HB4.out⟩
end Go.Proofs.Ytimmckdghihcjaa
