/- Blocks of cells; the small functions of package slots and of math/bits that it calls; no condition but those that each theorem names. -/
import Derived.Test.YtncelpphbhcogaaDoorSc
import Derived.WalkKit
import Derived.ProofKit
import Derived.OpenShut
import Derived.WalkSpells
import Derived.WalkLawsBesides
import Derived.Laws.Bits64b
import Derived.Laws.Bits128
import Derived.Laws.IdiomCopy
import Derived.Lib.SliceRun
import Derived.Deep.AppendLies
import Derived.Deep.WholeRow
import Derived.Deep.QuietTactic
import Derived.BigQuiet
import Derived.Deep.MidRow
import Derived.Deep.RegionHeld3
import Derived.Deep.RegionHeldLaw
import Derived.Deep.Upon
import Derived.Test.YtncelpphbhcogaaDoorChecked
namespace Go.Proofs.YtncelpphbhcogaaDoor.Z
open Go.ChangeShapes Go.WideShapes Go.ChangeAt Go.RowKit
set_option linter.unusedVariables false
set_option maxRecDepth 8192

theorem own : ownKnob Tryd.prog.godebug = none := by kernel_rfl
theorem ret_int {k : IntKind} {a b : Int} (h : a = b) : Ending.returned (.int k a) = .returned (.int k b) := by rw [h]
theorem ret_bool {a b : Bool} (h : a = b) : Ending.returned (.bool a) = .returned (.bool b) := by rw [h]
theorem some_ne {a b : Nat} (h : a ≠ b) : some a ≠ some b := fun e => h (by injection e)
theorem info_parts {t : TypeId} {z : Option Value} {s b : Nat} (h : (Tryd.prog.info? t).map (fun i => (i.zero, i.size, i.bytes)) = some (z, s, b)) : ∃ i, Tryd.prog.info? t = some i ∧ i.zero = z ∧ i.size = s ∧ i.bytes = b := by
  cases hi : Tryd.prog.info? t with
  | none => rw [hi] at h; exact absurd h nofun
  | some i =>
    rw [hi] at h
    obtain ⟨h1, h2, h3⟩ := Prod.mk.inj (Option.some.inj h) |>.imp id (fun q => Prod.mk.inj q)
    exact ⟨i, rfl, h1, h2, h3⟩
/-- A block of cells. -/
def Blk (w : World) (g : Nat) (ty : TypeId) (L : List Value) : Prop := w.heap[g]? = some (.cells L.toArray ty (0, 0))
theorem Blk.lt {w : World} {g : Nat} {ty : TypeId} {L : List Value} (h : Blk w g ty L) : g < w.heap.size := (Array.getElem?_eq_some_iff.1 h).1
theorem Blk.cell {w : World} {g : Nat} {ty : TypeId} {L : List Value} (h : Blk w g ty L) (i : Nat) : w.cell? ⟨g, i, none⟩ = L[i]? := by
  rw [cell_of_row w g i _ ty (0, 0) h, List.getElem?_toArray]
theorem Blk.frozen {w : World} {g : Nat} {ty : TypeId} {L : List Value} (h : Blk w g ty L) (i : Nat) : w.frozen? ⟨g, i, none⟩ = false := by
  unfold Blk at h
  simp [World.frozen?, h]
theorem Blk.of_eq {w w' : World} {g : Nat} {ty : TypeId} {L : List Value} (h : Blk w g ty L) (e : w'.heap[g]? = w.heap[g]?) : Blk w' g ty L := by unfold Blk at *; rw [e, h]
theorem Blk.below {w w' : World} {g : Nat} {ty : TypeId} {L : List Value} (h : Blk w g ty L) (k : Below w.heap.size w w') : Blk w' g ty L := h.of_eq (k.block g h.lt)
theorem Blk.kept {w w' : World} {g : Nat} {ty : TypeId} {L : List Value} {row : Option Nat} (h : Blk w g ty L) (k : w.grownBy w' row) (hne : some g ≠ row) : Blk w' g ty L := h.of_eq (k.block g h.lt hne)
theorem Blk.drew {w : World} {g : Nat} {ty : TypeId} {L : List Value} (h : Blk w g ty L) : Blk w.drew g ty L := h
theorem Blk.set {w : World} {g : Nat} {ty : TypeId} {L : List Value} (h : Blk w g ty L) (i : Nat) (v : Value) : Blk (w.setCell ⟨g, i, none⟩ v) g ty (L.set i v) := by
  unfold Blk at *
  simp only [World.setCell, Array.getElem?_modify, if_true, h]
  simp
theorem grown_setCell' (w : World) (g k : Nat) (v : Value) : w.grownBy (w.setCell ⟨g, k, none⟩ v) (some g) :=
  ⟨rfl, rfl, rfl, by simp [World.setCell], fun i hi hne => Below.heap_setCell _ _ _ _ (by intro h; exact hne (by rw [h]))⟩
theorem below_setCell {B : Nat} {w : World} {g : Nat} (hB : B ≤ g) (hw : B ≤ w.heap.size) (k : Nat) (v : Value) : Below B w (w.setCell ⟨g, k, none⟩ v) :=
  (Below.refl B w).grown (grown_setCell' w g k v) hw (fun t ht => by cases ht; exact hB)
theorem blk_new (w : World) (L : List Value) (ty : TypeId) : Blk (w.alloc (.cells L.toArray ty)) w.heap.size ty L := heap_alloc_last w _
theorem bs {w w1 w2 : World} (a : Below w.heap.size w w1) (b : Below w1.heap.size w1 w2) : Below w.heap.size w w2 := a.trans (b.mono a.size)
theorem below1 (w : World) (o : Obj) : Below w.heap.size w (w.alloc o) := (Below.refl _ _).alloc (Nat.le_refl _) _
/-- The table of math/bits. -/
def Tb (w : World) : Prop := ∀ j, j < 64 → w.cell? ⟨0, j, none⟩ = some (.int .u8 (Lib.deBruijn64tab.getD j 0 : Nat))
theorem Tb.of_eq {w w' : World} (h : Tb w) (e : w'.heap[0]? = w.heap[0]?) : Tb w' := fun j hj => (World.cell?_of_block (w := w) (a := ⟨0, j, none⟩) e).trans (h j hj)
theorem Tb.lt {w : World} (h : Tb w) : 0 < w.heap.size := by
  have := h 0 (by omega)
  by_cases q : 0 < w.heap.size
  · exact q
  · simp [World.cell?, Array.getElem?_eq_none (show w.heap.size ≤ 0 by omega)] at this
theorem Tb.below {w w' : World} (h : Tb w) (k : Below w.heap.size w w') : Tb w' := h.of_eq (k.block 0 h.lt)
theorem Tb.kept {w w' : World} {g : Nat} (h : Tb w) (k : w.grownBy w' (some g)) (hg : g ≠ 0) : Tb w' := h.of_eq (k.block 0 h.lt (some_ne (Ne.symm hg)))
theorem u64_wrap {x : Int} (h0 : 0 ≤ x) (h1 : x < 18446744073709551616) : IntKind.u64.wrap x = x := by rw [IntKind.wrap_u64]; omega
theorem bits_andNot_u64_nat (a b : Nat) (ha : a < 18446744073709551616) (hb : b < 18446744073709551616) : bits .andNot .u64 (a : Int) (b : Int) = ((a &&& (2 ^ 64 - 1 - b) : Nat) : Int) := by
  have hx : a &&& (2 ^ 64 - 1 - b) ≤ a := Nat.and_le_left
  have h1 : (BitVec.ofInt 64 (a : Int)).toNat = a := by
    rw [BitVec.ofInt_natCast, BitVec.toNat_ofNat]; exact Nat.mod_eq_of_lt (by omega)
  have h2 : (BitVec.ofInt 64 (b : Int)).toNat = b := by
    rw [BitVec.ofInt_natCast, BitVec.toNat_ofNat]; exact Nat.mod_eq_of_lt (by omega)
  show IntKind.u64.wrap ((BitVec.ofInt 64 (a : Int) &&& ~~~(BitVec.ofInt 64 (b : Int))).toNat : Int) = _
  rw [BitVec.toNat_and, BitVec.toNat_not, h1, h2, IntKind.wrap_u64]
  omega
theorem shl_u64 {i : Nat} (h : i < 64) : IntKind.u64.wrap ((2 : Int) ^ i) = ((2 ^ i : Nat) : Int) := by
  have : ∀ i : Fin 64, IntKind.u64.wrap ((2 : Int) ^ i.val) = ((2 ^ i.val : Nat) : Int) := by decide +kernel
  exact this ⟨i, h⟩
/-- Which bit a slot has. -/
theorem bit_any (k : Nat) (hk : k < 1048576) (w : World) : Calls Tryd.prog 19 #[.int .i64 (k : Int)] w fun e w' => e = .returned (.int .u64 ((2 ^ (k % 64) : Nat) : Int)) ∧ w' = w := by
  have e1 : (k : Int) % 64 = ((k % 64 : Nat) : Int) := by omega
  have h1 : k % 64 < 64 := by omega
  have e2 := shl_u64 h1
  obtain ⟨p, hp⟩ : ∃ p : Nat, 2 ^ (k % 64) = p := ⟨_, rfl⟩
  rw [hp] at e2 ⊢
  clear hp
  obtain ⟨a, ha⟩ : ∃ a, k % 64 = a := ⟨_, rfl⟩
  rw [ha] at e1 e2 h1
  clear ha
  go_enter Tryd.func19, Tryd.ntmps19
  go_wp2_with (first | rw [e1])
  go_ret
  exact ⟨rfl, rfl⟩
theorem tz_core {x k idx : Nat} (w : World) (hx0 : ((x : Int) == 0) = false)
    (key : IntKind.u64.wrap (bits BinOp.and IntKind.u64 (x : Int) (IntKind.u64.wrap (-(x : Int))) * 285870213051353865) / 288230376151711744 = (idx : Int))
    (hi : idx < 64) (hk : k < 64) (hcell : w.cell? ⟨0, idx, none⟩ = some (.int .u8 k)) : Calls Tryd.prog 22 #[.int .u64 (x : Int)] w fun e w' => e = .returned (.int .i64 k) ∧ w' = w := by
  go_enter Tryd.func22, Tryd.ntmps22
  go_wp2_with (simp only [key])
  go_ret
  exact ⟨rfl, rfl⟩
theorem tz_key (x a : Nat) (hx : x < 18446744073709551616) (hx0 : x ≠ 0) (hlow : x &&& (18446744073709551616 - x) = a) :
    IntKind.u64.wrap (bits BinOp.and IntKind.u64 (x : Int) (IntKind.u64.wrap (-(x : Int))) * 285870213051353865) / 288230376151711744 = ((a * 285870213051353865 % 18446744073709551616 / 288230376151711744 : Nat) : Int) := by
  have e1 : IntKind.u64.wrap (-(x : Int)) = ((18446744073709551616 - x : Nat) : Int) := by rw [IntKind.wrap_u64]; omega
  rw [e1, bits_and_u64_nat x _ hx (by omega), hlow, IntKind.wrap_u64]
  omega
theorem tz_any {x : Nat} (h0 : x ≠ 0) (hx : x < 18446744073709551616) {w : World} (ht : Tb w) : Calls Tryd.prog 22 #[.int .u64 (x : Int)] w fun e w' => e = .returned (.int .i64 (Lib.ctz 64 x : Nat)) ∧ w' = w := by
  obtain ⟨hlow, hk⟩ := Lib.lowest_bit 64 x h0 hx
  obtain ⟨hi, htab⟩ := Lib.deBruijn64_at _ hk
  have hcell := ht _ hi
  rw [htab] at hcell
  exact tz_core w (by simp; omega) (tz_key x _ hx h0 hlow) hi hk hcell
def o1 (n : Int) : Int := IntKind.u64.wrap (bits BinOp.and IntKind.u64 (n / 2) 6148914691236517205 + bits BinOp.and IntKind.u64 n 6148914691236517205)
def o2 (n : Int) : Int := IntKind.u64.wrap (bits BinOp.and IntKind.u64 (n / 4) 3689348814741910323 + bits BinOp.and IntKind.u64 n 3689348814741910323)
def o3 (n : Int) : Int := bits BinOp.and IntKind.u64 (IntKind.u64.wrap (n / 16 + n)) 1085102592571150095
def o4 (n : Int) : Int := IntKind.u64.wrap (n + n / 256)
def o5 (n : Int) : Int := IntKind.u64.wrap (n + n / 65536)
def o6 (n : Int) : Int := IntKind.u64.wrap (n + n / 4294967296)
def o7 (n : Int) : Int := bits BinOp.and IntKind.i64 (wrap64 n) 127
def oc (n : Int) : Int := o7 (o6 (o5 (o4 (o3 (o2 (o1 n))))))
theorem ones_run (n : Nat) (w : World) : Calls Tryd.prog 24 #[.int .u64 (n : Int)] w fun e w' => e = .returned (.int .i64 (oc n)) ∧ w' = w := by
  go_enter Tryd.func24, Tryd.ntmps24
  go_wp2
  go_ret
  exact ⟨rfl, rfl⟩
theorem o7_eq {x : Nat} (h : x < 18446744073709551616) : o7 (x : Int) = ((x % 128 : Nat) : Int) := by
  unfold o7
  rw [i64_and127, wrap64]
  omega
theorem oc_eq {x : Nat} (hx : x < 18446744073709551616) : oc x = (pc x : Nat) := by
  obtain ⟨p0, p1, p2, p3, p4, p5, p6, p7, x1, x2, x3, h1, b1, h2, b2, h3, h4, hp, hs⟩ := swar hx
  obtain ⟨x4, x5, x6, h5, b5, h6, b6, h7, b7, h8⟩ := fold8 h4 hp
  have a1 := @Nat.and_le_right (x / 2) 6148914691236517205
  have a2 := @Nat.and_le_right x 6148914691236517205
  have a3 := @Nat.and_le_right (x1 / 4) 3689348814741910323
  have a4 := @Nat.and_le_right x1 3689348814741910323
  have e1 : o1 x = (x1 : Nat) := by
    unfold o1
    rw [show (x : Int) / 2 = ((x / 2 : Nat) : Int) by omega]
    have q1 := bits_and_u64_nat (x / 2) 6148914691236517205 (by omega) (by omega)
    have q2 := bits_and_u64_nat x 6148914691236517205 hx (by omega)
    rw [show ((6148914691236517205 : Nat) : Int) = 6148914691236517205 from rfl] at q1 q2
    rw [q1, q2, IntKind.wrap_u64, ← h1]
    omega
  have e2 : o2 x1 = (x2 : Nat) := by
    unfold o2
    rw [show (x1 : Int) / 4 = ((x1 / 4 : Nat) : Int) by omega]
    have q1 := bits_and_u64_nat (x1 / 4) 3689348814741910323 (by omega) (by omega)
    have q2 := bits_and_u64_nat x1 3689348814741910323 b1 (by omega)
    rw [show ((3689348814741910323 : Nat) : Int) = 3689348814741910323 from rfl] at q1 q2
    rw [q1, q2, IntKind.wrap_u64, ← h2]
    omega
  have e3 : o3 x2 = (x3 : Nat) := by
    unfold o3
    have q := bits_and_u64_nat (x2 / 16 + x2) 1085102592571150095 (by omega) (by omega)
    rw [show ((1085102592571150095 : Nat) : Int) = 1085102592571150095 from rfl] at q
    rw [show IntKind.u64.wrap ((x2 : Int) / 16 + x2) = ((x2 / 16 + x2 : Nat) : Int) by rw [IntKind.wrap_u64]; omega, q, h3]
  have e4 : o4 x3 = (x4 : Nat) := by unfold o4; rw [IntKind.wrap_u64]; omega
  have e5 : o5 x4 = (x5 : Nat) := by unfold o5; rw [IntKind.wrap_u64]; omega
  have e6 : o6 x5 = (x6 : Nat) := by unfold o6; rw [IntKind.wrap_u64]; omega
  unfold oc
  rw [e1, e2, e3, e4, e5, e6, o7_eq b7, h8, hs]
theorem ones_any {x : Nat} (hx : x < 18446744073709551616) (w : World) : Calls Tryd.prog 24 #[.int .u64 (x : Int)] w fun e w' => e = .returned (.int .i64 (pc x : Nat)) ∧ w' = w := by
  rw [← oc_eq hx]
  exact ones_run x w
end Go.Proofs.YtncelpphbhcogaaDoor.Z
