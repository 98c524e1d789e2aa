/- EntryMakes: of every entry the program's Make, Check and Allows and the reference's answer alike. -/
import Derived.Test.YtinegjobjpmkcaaLw
import Derived.Deep.RegionHeld3
namespace Go.Proofs.Ytinegjobjpmkcaa
open Go.ChangeShapes Go.WideShapes Go.ChangeAt Go.RowKit
set_option linter.unusedVariables false

def iv : Value → Int
  | .int _ a => a
  | _ => 0
theorem below_drew (w : World) (B : Nat) : Below B w w.drew := (Below.refl B w).drew
/-- A box with an entry in it beside what was there. -/
structure Bx (w0 w : World) (b : Nat) (p s r u a d : Bool) (t : Int) : Prop where
  be : Below w0.heap.size w0 w
  cs : Sev w b p s r u a d t
theorem Bx.below {w0 w w' : World} {b : Nat} {p s r u a d : Bool} {t : Int} (h : Bx w0 w b p s r u a d t) (k : Below w.heap.size w w') : Bx w0 w' b p s r u a d t := ⟨h.be.trans (k.mono h.be.size), h.cs.below k⟩
theorem bx_new (w : World) (p s r u a d : Bool) (t : Int) : Bx w (w.alloc (.cells #[.bool p, .bool s, .bool r, .bool u, .bool a, .bool d, .int .i64 t] 23)) w.heap.size p s r u a d t := ⟨below_new _ _, sev_new w p s r u a d t⟩
/-- The seven cells as one conjunction. -/
def Sx (w : World) (g : Nat) (p s r u a d : Bool) (t : Int) : Prop := w.cell? ⟨g, 0, none⟩ = some (.bool p) ∧ w.cell? ⟨g, 1, none⟩ = some (.bool s) ∧ w.cell? ⟨g, 2, none⟩ = some (.bool r) ∧ w.cell? ⟨g, 3, none⟩ = some (.bool u) ∧ w.cell? ⟨g, 4, none⟩ = some (.bool a) ∧ w.cell? ⟨g, 5, none⟩ = some (.bool d) ∧ w.cell? ⟨g, 6, none⟩ = some (.int .i64 t)
theorem Sev.sx {w : World} {g : Nat} {p s r u a d : Bool} {t : Int} (h : Sev w g p s r u a d t) : Sx w g p s r u a d t := ⟨h.c0, h.c1, h.c2, h.c3, h.c4, h.c5, h.c6⟩
set_option maxHeartbeats 1000000 in
theorem makes_any (p s r u a d : Bool) (t : Int) (w : World) : Calls Try.prog 3 #[.agg #[.bool p, .bool s, .bool r, .bool u, .bool a, .bool d, .int .i64 t]] w fun e w' => e = .returned (.bool true) ∧ Below w.heap.size w w' := by
  obtain ⟨v, er, D1, D2⟩ : ∃ v er, (∀ w, Hid (Calls Try.prog 7 #[.agg #[.bool p, .bool s, .bool r, .bool u, .bool a, .bool d, .int .i64 t]] w fun e w' => e = .returned (.tuple #[.int .u64 v, .int .i64 er]) ∧ Below w.heap.size w w')) ∧ (∀ w, Hid (Calls Try.prog 8 #[.agg #[.bool p, .bool s, .bool r, .bool u, .bool a, .bool d, .int .i64 t]] w fun e w' => e = .returned (.tuple #[.int .u64 v, .int .i64 er]) ∧ Below w.heap.size w w')) := by
    cases hm : may p s r u a d t
    · exact ⟨_, _, fun w => Make_no p s r u a d t hm w, fun w => rMake_no p s r u a d t hm w⟩
    · exact ⟨_, _, fun w => Make_ok p s r u a d t hm w, fun w => rMake_ok p s r u a d t hm w⟩
  obtain ⟨ec, C1, C2⟩ : ∃ ec, (∀ w, Hid (Calls Try.prog 9 #[.agg #[.bool p, .bool s, .bool r, .bool u, .bool a, .bool d, .int .i64 t]] w fun e w' => e = .returned (.int .i64 ec) ∧ Below w.heap.size w w')) ∧ (∀ w, Hid (Calls Try.prog 10 #[.agg #[.bool p, .bool s, .bool r, .bool u, .bool a, .bool d, .int .i64 t]] w fun e w' => e = .returned (.int .i64 ec) ∧ Below w.heap.size w w')) := ⟨_, fun w => Check_any p s r u a d t w, fun w => rCheck_any p s r u a d t w⟩
  obtain ⟨A, ea, A1, A2⟩ : ∃ (A : Bool → Int) (ea : Int), (∀ q w, Hid (Calls Try.prog 11 #[.agg #[.bool p, .bool s, .bool r, .bool u, .bool a, .bool d, .int .i64 t], .bool q] w fun e w' => e = .returned (.tuple #[.int .u8 (A q), .int .i64 ea]) ∧ Below w.heap.size w w')) ∧ (∀ q w, Hid (Calls Try.prog 12 #[.agg #[.bool p, .bool s, .bool r, .bool u, .bool a, .bool d, .int .i64 t], .bool q] w fun e w' => e = .returned (.tuple #[.int .u8 (A q), .int .i64 ea]) ∧ Below w.heap.size w w')) := by
    cases hm : may p s r u a d t
    · exact ⟨fun _ => 0, 70, fun q w => Allows_no p s r u a d t q hm w, fun q w => rAllows_no p s r u a d t q hm w⟩
    · exact ⟨al p s r u, 0, fun q w => Allows_ok p s r u a d t q hm w, fun q w => rAllows_ok p s r u a d t q hm w⟩
  go_enter Try.func3, Try.ntmps3
  go_wp2_with fail
  have B0 : Hid (Bx w (w.alloc (.cells #[.bool p, .bool s, .bool r, .bool u, .bool a, .bool d, .int .i64 t] 23)) w.heap.size p s r u a d t) := bx_new w p s r u a d t
  generalize (w.alloc (.cells #[.bool p, .bool s, .bool r, .bool u, .bool a, .bool d, .int .i64 t] 23)) = w0 at *
  generalize hb : w.heap.size = b at *
  refine (D1 _).out.mono ?_
  rintro e w1 ⟨rfl, k1⟩
  have B1 : Hid (Bx w w1 b p s r u a d t) := B0.out.below k1
  obtain ⟨_, c0, c1, c2, c3, c4, c5, c6⟩ := B1.out.cs
  clear k1 B0 D1
  go_wp2_with fail
  refine (D2 _).out.mono ?_
  rintro e w2 ⟨rfl, k2⟩
  have B2 : Hid (Bx w w2 b p s r u a d t) := B1.out.below k2
  clear k2 B1 D2 c0 c1 c2 c3 c4 c5 c6
  go_wp2_with fail
  go_region_held3 (fun W => W.cell? ⟨b, 0, none⟩ = some (.bool p) ∧ W.cell? ⟨b, 1, none⟩ = some (.bool s) ∧ W.cell? ⟨b, 2, none⟩ = some (.bool r) ∧ W.cell? ⟨b, 3, none⟩ = some (.bool u) ∧ W.cell? ⟨b, 4, none⟩ = some (.bool a) ∧ W.cell? ⟨b, 5, none⟩ = some (.bool d) ∧ W.cell? ⟨b, 6, none⟩ = some (.int .i64 t))
    (first | exact B4.out.cs.sx | exact B3.out.cs.sx | exact (B2.out.below (below_drew _ _)).cs.sx)
    (first
      | (go_at_call 9; refine (C1 _).out.mono ?_; rintro e w3 ⟨rfl, k3⟩; have B3 : Hid (Bx w w3 b p s r u a d t) := (B2.out.below (below_drew _ _)).below k3; clear k3)
      | (go_at_call 10; refine (C2 _).out.mono ?_; rintro e w4 ⟨rfl, k4⟩; have B4 : Hid (Bx w w4 b p s r u a d t) := B3.out.below k4; clear k4))
  clear B2 B3 C1 C2
  go_wp2_with fail
  go_loopw [7] (fun i wr => ∃ k : Nat, k ≤ 2 ∧ i = .int .i64 k ∧ Bx w wr b p s r u a d t) (fun i _ => 2 - (iv i).toNat)
  case atStart => exact ⟨0, by omega, rfl, B4.out⟩
  case round =>
    clear B4
    obtain ⟨k, hk, rfl, hB⟩ := hrel
    have HB : Hid (Bx w wr b p s r u a d t) := hB
    clear hB
    by_cases hlt : k < 2
    · obtain ⟨_, c0, c1, c2, c3, c4, c5, c6⟩ := HB.out.cs
      go_wp2_with fail
      refine (A1 _ _).out.mono ?_
      rintro e w5 ⟨rfl, k5⟩
      have B5 : Hid (Bx w w5 b p s r u a d t) := HB.out.below k5
      clear k5 c0 c1 c2 c3 c4 c5 c6 HB
      obtain ⟨_, c0, c1, c2, c3, c4, c5, c6⟩ := B5.out.cs
      go_wp2_with fail
      refine (A2 _ _).out.mono ?_
      rintro e w6 ⟨rfl, k6⟩
      have B6 : Hid (Bx w w6 b p s r u a d t) := B5.out.below k6
      clear k6 c0 c1 c2 c3 c4 c5 c6 B5
      go_wp2_with fail
      go_roundw
      case rel => exact ⟨k + 1, by omega, by go_num, B6.out⟩
      case measure => simp [iv]; omega
    · go_wp2_with fail
      refine (awake_any _).mono ?_
      rintro e w5 ⟨rfl, k5⟩
      have FIN : Hid (Below w.heap.size w w5) := HB.out.be.trans (k5.mono HB.out.be.size)
      clear k5
      go_wp2
      go_ret
      subst hb
      exact ⟨rfl, FIN.out⟩
end Go.Proofs.Ytinegjobjpmkcaa
