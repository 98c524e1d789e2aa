/- The statement's one step: what is done to both memories is answered alike, and they hold alike behind it. -/
import Derived.Test.YtbfagelmijimeaaPt
import Derived.Deep.RegionHeld3
namespace Go.Proofs.Ytbfagelmijimeaa
open Go.ChangeShapes Go.WideShapes Go.ChangeAt Go.RowKit
set_option linter.unusedVariables false

theorem kind8 (k : Int) : k % 8 = 0 ∨ k % 8 = 1 ∨ k % 8 = 2 ∨ k % 8 = 3 ∨ k % 8 = 4 ∨ k % 8 = 5 ∨ k % 8 = 6 ∨ k % 8 = 7 := by omega
set_option maxRecDepth 100000 in
set_option maxHeartbeats 8000000 in
theorem done_any {mv rv : Option Addr} {B T : Nat} {S : St} (O : Orc mv rv B T S) (f : Nat → Int) (w : World) (hS : S f f w) {Kind At Size V To From : Int} {aB : Option Addr} {lB cB : Nat} {fB : Nat → Int} (hD : DoIn B w Kind At Size V To From aB lB cB fB) :
    Calls Try.prog 12 #[.pointer mv, .pointer rv, .agg (doV Kind At Size V To From aB lB cB).toArray] w fun e w' => e = .returned (.bool true) ∧ (∃ f', S f' f' w') ∧ Below B w w' := by
  have HO : Hid (Orc mv rv B T S) := O
  have HS : Hid (S f f w) := hS
  have HD : Hid (DoIn B w Kind At Size V To From aB lB cB fB) := hD
  obtain ⟨hBT, hT⟩ := O.size _ _ _ hS
  obtain ⟨hk0, hk1⟩ := hD.kind
  obtain ⟨hv0, hv1⟩ := hD.v
  clear O hS hD
  unfold doV
  have hbx := bx_new w #[.int .i64 Kind, .int .u64 At, .int .i64 Size, .int .u64 V, .int .i64 To, .int .i64 From, .slice aB lB cB] 35
  have gbx := World.grownBy_alloc w (.cells #[.int .i64 Kind, .int .u64 At, .int .i64 Size, .int .u64 V, .int .i64 To, .int .i64 From, .slice aB lB cB] 35) none
  have h1 : (w.alloc (.cells #[.int .i64 Kind, .int .u64 At, .int .i64 Size, .int .u64 V, .int .i64 To, .int .i64 From, .slice aB lB cB] 35)).heap.size = w.heap.size + 1 := by simp
  generalize hw1 : w.alloc (.cells #[.int .i64 Kind, .int .u64 At, .int .i64 Size, .int .u64 V, .int .i64 To, .int .i64 From, .slice aB lB cB] 35) = w1 at *
  have HW1 : Hid (w.alloc (.cells #[.int .i64 Kind, .int .u64 At, .int .i64 Size, .int .u64 V, .int .i64 To, .int .i64 From, .slice aB lB cB] 35) = w1) := hw1
  have HBX : Hid (Bx w1 w.heap.size [.int .i64 Kind, .int .u64 At, .int .i64 Size, .int .u64 V, .int .i64 To, .int .i64 From, .slice aB lB cB]) := hbx
  have HS1 : Hid (S f f w1) := HO.out.grow HS.out gbx
  have hB1 : Below B w w1 := (Below.refl _ _).grown gbx (by omega) (by simp)
  have HD1 : Hid (DoIn B w1 Kind At Size V To From aB lB cB fB) := HD.out.below hB1
  have HB1 : Hid (Below B w w1) := hB1
  clear hbx gbx HD HS hB1 hw1
  go_enter Try.func12, Try.ntmps12
  go_wp2_with fail
  rw [HW1.out]
  clear HW1
  refine (kind_any Kind 8 (by omega) (by omega) hk0 hk1 w1).mono ?_
  rintro e w1 ⟨rfl, rfl⟩
  have c0 := HBX.out.2 0 _ rfl
  have c1 := HBX.out.2 1 _ rfl
  have c2 := HBX.out.2 2 _ rfl
  have c3 := HBX.out.2 3 _ rfl
  have c4 := HBX.out.2 4 _ rfl
  have c5 := HBX.out.2 5 _ rfl
  have c6 := HBX.out.2 6 _ rfl
  rcases kind8 Kind with hk | hk | hk | hk | hk | hk | hk | hk <;> rw [hk] <;> clear hk hk0 hk1
  · obtain ⟨v, er, hC⟩ := HO.out.byte f At HD1.out.at'.1 HD1.out.at'.2
    obtain ⟨C1, C2⟩ := hC w1 HS1.out
    have HC1 : Hid (Calls _ _ _ _ _) := C1
    have HC2 : Hid (Calls _ _ _ _ _) := C2
    clear hC C1 C2
    go_wp2_with fail
    refine HC1.out.mono ?_
    rintro e w2 ⟨rfl, rfl⟩
    go_wp2_with fail
    refine HC2.out.mono ?_
    rintro e w3 ⟨rfl, rfl⟩
    go_wp2
    go_ret
    exact ⟨rfl, ⟨f, HS1.out⟩, HB1.out⟩
  · obtain ⟨f', er, C1, C2⟩ := HO.out.setb f At (V % 256) HD1.out.at'.1 HD1.out.at'.2 (by omega) (by omega)
    have HC1 : Hid (∀ W f2, S f f2 W → Calls Try.prog 15 #[.pointer mv, .int .u64 At, .int .u8 (V % 256)] W fun e W' => e = .returned (.int .i64 er) ∧ S f' f2 W' ∧ Chg B T W W') := C1
    have HC2 : Hid (∀ W f1, S f1 f W → Calls Try.prog 27 #[.pointer rv, .int .u64 At, .int .u8 (V % 256)] W fun e W' => e = .returned (.int .i64 er) ∧ S f1 f' W' ∧ Chg B T W W') := C2
    clear C1 C2
    have HSd : Hid (S f f w1.drew) := HO.out.grow HS1.out (grown_drewN _ 1 _)
    have HXd : Hid (Bx w1.drew w.heap.size _) := HBX.out.kept (grown_drewN _ 1 none) (by simp)
    have HBd : Hid (Below B w w1.drew) := HB1.out.drew
    go_wp2_with fail
    go_region_held3 (fun w' => w'.cell? ⟨w.heap.size, 1, none⟩ = some (.int .u64 At) ∧ w'.cell? ⟨w.heap.size, 3, none⟩ = some (.int .u64 V))
      (first | exact ⟨HX4.out.2 1 _ rfl, HX4.out.2 3 _ rfl⟩ | exact ⟨HX3.out.2 1 _ rfl, HX3.out.2 3 _ rfl⟩ | exact ⟨HXd.out.2 1 _ rfl, HXd.out.2 3 _ rfl⟩)
      (first
        | (go_at_call 15; refine (HC1.out w1.drew f HSd.out).mono ?_; rintro e w3 ⟨rfl, hS3, hch⟩; have HS3 : Hid (S f' f w3) := hS3; have HX3 : Hid (Bx w3 w.heap.size _) := hch.bx HXd.out hT; have HB3 : Hid (Below B w w3) := HBd.out.trans (hch.below (Nat.le_trans (by omega) HBd.out.size)); clear hS3 hch)
        | (go_at_call 27; refine (HC2.out _ f' HS3.out).mono ?_; rintro e w4 ⟨rfl, hS4, hch⟩; have HS4 : Hid (S f' f' w4) := hS4; have HX4 : Hid (Bx w4 w.heap.size _) := hch.bx HX3.out hT; have HB4 : Hid (Below B w w4) := HB3.out.trans (hch.below (Nat.le_trans (by omega) HB3.out.size)); clear hS4 hch))
    go_wp2
    go_ret
    exact ⟨rfl, ⟨f', HS4.out⟩, HB4.out⟩
  · obtain ⟨v, er, hC⟩ := HO.out.load f At Size HD1.out.at'.1 HD1.out.at'.2 HD1.out.size.1 HD1.out.size.2
    obtain ⟨C1, C2⟩ := hC w1 HS1.out
    have HC1 : Hid (Calls _ _ _ _ _) := C1
    have HC2 : Hid (Calls _ _ _ _ _) := C2
    clear hC C1 C2
    go_wp2_with fail
    refine HC1.out.mono ?_
    rintro e w2 ⟨rfl, rfl⟩
    go_wp2_with fail
    refine HC2.out.mono ?_
    rintro e w3 ⟨rfl, rfl⟩
    go_wp2
    go_ret
    exact ⟨rfl, ⟨f, HS1.out⟩, HB1.out⟩
  · obtain ⟨f', er, C1, C2⟩ := HO.out.store f At Size V HD1.out.at'.1 HD1.out.at'.2 HD1.out.size.1 HD1.out.size.2 hv0 hv1
    have HC1 : Hid (∀ W f2, S f f2 W → Calls Try.prog 16 #[.pointer mv, .int .u64 At, .int .i64 Size, .int .u64 V] W fun e W' => e = .returned (.int .i64 er) ∧ S f' f2 W' ∧ Chg B T W W') := C1
    have HC2 : Hid (∀ W f1, S f1 f W → Calls Try.prog 29 #[.pointer rv, .int .u64 At, .int .i64 Size, .int .u64 V] W fun e W' => e = .returned (.int .i64 er) ∧ S f1 f' W' ∧ Chg B T W W') := C2
    clear C1 C2
    have HSd : Hid (S f f w1.drew) := HO.out.grow HS1.out (grown_drewN _ 1 _)
    have HXd : Hid (Bx w1.drew w.heap.size _) := HBX.out.kept (grown_drewN _ 1 none) (by simp)
    have HBd : Hid (Below B w w1.drew) := HB1.out.drew
    go_wp2_with fail
    go_region_held3 (fun w' => w'.cell? ⟨w.heap.size, 1, none⟩ = some (.int .u64 At) ∧ w'.cell? ⟨w.heap.size, 2, none⟩ = some (.int .i64 Size) ∧ w'.cell? ⟨w.heap.size, 3, none⟩ = some (.int .u64 V))
      (first | exact ⟨HX4.out.2 1 _ rfl, HX4.out.2 2 _ rfl, HX4.out.2 3 _ rfl⟩ | exact ⟨HX3.out.2 1 _ rfl, HX3.out.2 2 _ rfl, HX3.out.2 3 _ rfl⟩ | exact ⟨HXd.out.2 1 _ rfl, HXd.out.2 2 _ rfl, HXd.out.2 3 _ rfl⟩)
      (first
        | (go_at_call 16; refine (HC1.out w1.drew f HSd.out).mono ?_; rintro e w3 ⟨rfl, hS3, hch⟩; have HS3 : Hid (S f' f w3) := hS3; have HX3 : Hid (Bx w3 w.heap.size _) := hch.bx HXd.out hT; have HB3 : Hid (Below B w w3) := HBd.out.trans (hch.below (Nat.le_trans (by omega) HBd.out.size)); clear hS3 hch)
        | (go_at_call 29; refine (HC2.out _ f' HS3.out).mono ?_; rintro e w4 ⟨rfl, hS4, hch⟩; have HS4 : Hid (S f' f' w4) := hS4; have HX4 : Hid (Bx w4 w.heap.size _) := hch.bx HX3.out hT; have HB4 : Hid (Below B w w4) := HB3.out.trans (hch.below (Nat.le_trans (by omega) HB3.out.size)); clear hS4 hch))
    go_wp2
    go_ret
    exact ⟨rfl, ⟨f', HS4.out⟩, HB4.out⟩
  · obtain ⟨f', er, C1, C2⟩ := HO.out.zero f To
    have HC1 : Hid (∀ W f2, S f f2 W → Calls Try.prog 23 #[.pointer mv, .int .i64 To] W fun e W' => e = .returned (.int .i64 er) ∧ S f' f2 W' ∧ Chg B T W W') := C1
    have HC2 : Hid (∀ W f1, S f1 f W → Calls Try.prog 30 #[.pointer rv, .int .i64 To] W fun e W' => e = .returned (.int .i64 er) ∧ S f1 f' W' ∧ Chg B T W W') := C2
    clear C1 C2
    have HSd : Hid (S f f w1.drew) := HO.out.grow HS1.out (grown_drewN _ 1 _)
    have HXd : Hid (Bx w1.drew w.heap.size _) := HBX.out.kept (grown_drewN _ 1 none) (by simp)
    have HBd : Hid (Below B w w1.drew) := HB1.out.drew
    go_wp2_with fail
    go_region_held3 (fun w' => w'.cell? ⟨w.heap.size, 4, none⟩ = some (.int .i64 To))
      (first | exact (HX4.out.2 4 _ rfl) | exact (HX3.out.2 4 _ rfl) | exact (HXd.out.2 4 _ rfl))
      (first
        | (go_at_call 23; refine (HC1.out w1.drew f HSd.out).mono ?_; rintro e w3 ⟨rfl, hS3, hch⟩; have HS3 : Hid (S f' f w3) := hS3; have HX3 : Hid (Bx w3 w.heap.size _) := hch.bx HXd.out hT; have HB3 : Hid (Below B w w3) := HBd.out.trans (hch.below (Nat.le_trans (by omega) HBd.out.size)); clear hS3 hch)
        | (go_at_call 30; refine (HC2.out _ f' HS3.out).mono ?_; rintro e w4 ⟨rfl, hS4, hch⟩; have HS4 : Hid (S f' f' w4) := hS4; have HX4 : Hid (Bx w4 w.heap.size _) := hch.bx HX3.out hT; have HB4 : Hid (Below B w w4) := HB3.out.trans (hch.below (Nat.le_trans (by omega) HB3.out.size)); clear hS4 hch))
    go_wp2
    go_ret
    exact ⟨rfl, ⟨f', HS4.out⟩, HB4.out⟩
  · obtain ⟨f', er, C1, C2⟩ := HO.out.copy f To From
    have HC1 : Hid (∀ W f2, S f f2 W → Calls Try.prog 19 #[.pointer mv, .int .i64 To, .int .i64 From] W fun e W' => e = .returned (.int .i64 er) ∧ S f' f2 W' ∧ Chg B T W W') := C1
    have HC2 : Hid (∀ W f1, S f1 f W → Calls Try.prog 31 #[.pointer rv, .int .i64 To, .int .i64 From] W fun e W' => e = .returned (.int .i64 er) ∧ S f1 f' W' ∧ Chg B T W W') := C2
    clear C1 C2
    have HSd : Hid (S f f w1.drew) := HO.out.grow HS1.out (grown_drewN _ 1 _)
    have HXd : Hid (Bx w1.drew w.heap.size _) := HBX.out.kept (grown_drewN _ 1 none) (by simp)
    have HBd : Hid (Below B w w1.drew) := HB1.out.drew
    go_wp2_with fail
    go_region_held3 (fun w' => w'.cell? ⟨w.heap.size, 4, none⟩ = some (.int .i64 To) ∧ w'.cell? ⟨w.heap.size, 5, none⟩ = some (.int .i64 From))
      (first | exact ⟨HX4.out.2 4 _ rfl, HX4.out.2 5 _ rfl⟩ | exact ⟨HX3.out.2 4 _ rfl, HX3.out.2 5 _ rfl⟩ | exact ⟨HXd.out.2 4 _ rfl, HXd.out.2 5 _ rfl⟩)
      (first
        | (go_at_call 19; refine (HC1.out w1.drew f HSd.out).mono ?_; rintro e w3 ⟨rfl, hS3, hch⟩; have HS3 : Hid (S f' f w3) := hS3; have HX3 : Hid (Bx w3 w.heap.size _) := hch.bx HXd.out hT; have HB3 : Hid (Below B w w3) := HBd.out.trans (hch.below (Nat.le_trans (by omega) HBd.out.size)); clear hS3 hch)
        | (go_at_call 31; refine (HC2.out _ f' HS3.out).mono ?_; rintro e w4 ⟨rfl, hS4, hch⟩; have HS4 : Hid (S f' f' w4) := hS4; have HX4 : Hid (Bx w4 w.heap.size _) := hch.bx HX3.out hT; have HB4 : Hid (Below B w w4) := HB3.out.trans (hch.below (Nat.le_trans (by omega) HB3.out.size)); clear hS4 hch))
    go_wp2
    go_ret
    exact ⟨rfl, ⟨f', HS4.out⟩, HB4.out⟩
  · go_wp2_with fail
    refine (page_any HO.out f To w1 HS1.out).mono ?_
    rintro e w2 ⟨rfl, hb2⟩
    have HS2 : Hid (S f f w2) := HO.out.grow HS1.out (below_grow hb2)
    have HB2 : Hid (Below B w w2) := HB1.out.trans (hb2.mono (by omega))
    clear hb2
    go_wp2
    go_ret
    exact ⟨rfl, ⟨f, HS2.out⟩, HB2.out⟩
  · go_wp2_with fail
    refine (lput_any HO.out f w1 HS1.out HD1.out).mono ?_
    rintro e w2 ⟨rfl, ⟨f', hS2⟩, hb2⟩
    have HS2 : Hid (S f' f' w2) := hS2
    have HB2 : Hid (Below B w w2) := HB1.out.trans hb2
    clear hb2 hS2
    go_wp2
    go_ret
    exact ⟨rfl, ⟨f', HS2.out⟩, HB2.out⟩
end Go.Proofs.Ytbfagelmijimeaa
