/- R.Within; a list of calls as the statements take it; no condition but those that each theorem names. -/
import Derived.Test.YtncelpphbhcogaaDoorSj
import Derived.Lib.SmallJoins
import Derived.SizedLaws
namespace Go.Proofs.YtncelpphbhcogaaDoor.Z
open Go.ChangeShapes Go.WideShapes Go.ChangeAt Go.RowKit
set_option linter.unusedVariables false
set_option maxRecDepth 8192

theorem within_eq (k n : Int) (hn : 0 < n) : (if k.tmod n < 0 then k.tmod n + n else k.tmod n) = k % n := by
  have h1 := Int.tmod_eq_emod (a := k) (b := n)
  have h2 := Int.emod_nonneg k (by omega : n ≠ 0)
  have h3 := Int.emod_lt_of_pos k hn
  have h5 : -n < k.tmod n := Int.lt_tmod_of_pos k hn
  rw [Int.tmod_eq_emod] at *
  split at h5 <;> split <;> omega
theorem Within_any (k n : Int) (h0 : 0 < n) (h1 : n < 4611686018427387904) (hk0 : -9223372036854775808 ≤ k) (hk1 : k < 9223372036854775808) (w : World) :
    Calls Tryd.prog 18 #[.int .i64 k, .int .i64 n] w fun e w' => e = .returned (.int .i64 (k % n)) ∧ w' = w := by
  have HE : Hid _ := within_eq k n h0
  have h2 : -n < k.tmod n := Int.lt_tmod_of_pos k h0
  have h3 : k.tmod n < n := Int.tmod_lt_of_pos k h0
  by_cases hz : k.tmod n < 0
  · rw [if_pos hz] at HE
    go_enter Tryd.func18, Tryd.ntmps18
    go_wp2
    go_ret
    exact ⟨ret_int HE.out, rfl⟩
  · rw [if_neg hz] at HE
    go_enter Tryd.func18, Tryd.ntmps18
    go_wp2
    go_ret
    exact ⟨ret_int HE.out, rfl⟩
/-- A list of calls that came in: it lies in blocks below B. -/
def Dos (B : Nat) (W : World) (ao : Option Addr) (L : Nat) : Prop := ∀ i, i < L → ∃ (b off : Nat) (gv : Bool) (x : Int), ao = some ⟨b, off, none⟩ ∧ b < B ∧ W.cell? ⟨b, off + i * 2, none⟩ = some (.bool gv) ∧ W.cell? ⟨b, off + i * 2 + 1, none⟩ = some (.int .i64 x) ∧ -9223372036854775808 ≤ x ∧ x < 9223372036854775808
theorem Dos.below {B : Nat} {W W' : World} {ao : Option Addr} {L : Nat} (h : Dos B W ao L) (k : Below B W W') : Dos B W' ao L := fun i hi => by
  obtain ⟨b, off, gv, x, e, hb, h1, h2, h3⟩ := h i hi
  have q := k.block b hb
  exact ⟨b, off, gv, x, e, hb, (World.cell?_of_block (w := W) (a := ⟨b, off + i * 2, none⟩) q).trans h1, (World.cell?_of_block (w := W) (a := ⟨b, off + i * 2 + 1, none⟩) q).trans h2, h3⟩
theorem laidOut : laidOutB Tryd.prog = true := by kernel_rfl
theorem Tryd.cells3 : Tryd.prog.cellsOf 3 = 1 := by kernel_rfl
theorem Tryd.cells4 : Tryd.prog.cellsOf 4 = 1 := by kernel_rfl
theorem Tryd.cellsDo : Tryd.prog.cellsOf 33 = 2 := by kernel_rfl
theorem wf_i64 {n : Int} (h : (Lit.int .i64 n).wf = true) : -9223372036854775808 ≤ n ∧ n < 9223372036854775808 := by
  have := bounds_i64 h
  omega
theorem lst2 {α : Type} {l : List α} (h : l.length = 2) : ∃ c0 c1, l = [c0, c1] := by
  match l, h with
  | [c0, c1], _ => exact ⟨c0, c1, rfl⟩
open Go.Deep in
theorem open_do2 {H : Type} {enc : TypeId × Value → H} {W : World} {fuel : Nat} {cs : List Value} {x : DataW H × List MemPlace} (hl : cs.length = 2)
    (h : DataW.trod enc Tryd.prog W 0 (fun _ => true) true fuel 33 cs = some x) : ∃ (gv : Bool) (n : Int), cs = [.bool gv, .int .i64 n] ∧ -9223372036854775808 ≤ n ∧ n < 9223372036854775808 := by
  obtain ⟨c0, c1, rfl⟩ := lst2 hl
  obtain ⟨xs, n, _, hx, _, hlen, hg⟩ := DataW.trod_struct Tryd.underlying33 h
  match xs, hlen with
  | [z0, z1], _ =>
    have t0 := hg 0 _ rfl
    have t1 := hg 1 _ rfl
    simp [Tryd.cells3, Tryd.cells4] at t0 t1
    obtain ⟨a0, e0, _⟩ := DataW.trod_bool Tryd.underlying4 t0
    obtain ⟨a1, e1, _, w1⟩ := DataW.trod_int Tryd.underlying3 t1
    simp at e0 e1
    subst e0 e1
    exact ⟨a0, a1, rfl, wf_i64 w1⟩
open Go.Deep in
theorem open_dos {H : Type} {enc : TypeId × Value → H} {W : World} {a0 : Option Addr} {len cap : Nat} {d : DataW H} {p : List MemPlace}
    (h : DataW.Trod enc Tryd.prog W 0 (fun _ => true) true 22 (.slice a0 len cap) d p) : Dos W.heap.size W a0 len ∧ len ≤ maxLen := by
  obtain ⟨fuel, hf⟩ := h
  rcases DataW.trod_slice Tryd.underlying22 hf with ⟨hcs, hx⟩ | ⟨a, l, c, elems, rest, n, _, hcs, hx, _, hlc, hcm, hlen, hel, _, _⟩
  · simp [Value.cells] at hcs
    obtain ⟨rfl, rfl, rfl⟩ := hcs
    exact ⟨fun i hi => by omega, by unfold maxLen; omega⟩
  · simp [Value.cells] at hcs
    obtain ⟨rfl, rfl, rfl⟩ := hcs
    refine ⟨fun i hi => ?_, by omega⟩
    have hi2 := hel i hi
    rw [List.getElem?_eq_getElem (by omega : i < elems.length)] at hi2
    obtain ⟨cs, hcs, htr⟩ := Option.bind_eq_some_iff.1 hi2
    rw [Tryd.cellsDo] at hcs
    obtain ⟨_, hl3, hcell⟩ := World.cells?_some hcs
    have hblk := World.cells?_block hcs (by omega)
    obtain ⟨gv, x, rfl, hx1, hx2⟩ := open_do2 hl3 htr
    have hspot : a.spot = none := by
      have hz := hel 0 (by omega)
      rw [List.getElem?_eq_getElem (by omega : 0 < elems.length)] at hz
      obtain ⟨cz, hcz, _⟩ := Option.bind_eq_some_iff.1 hz
      rw [Tryd.cellsDo] at hcz
      obtain ⟨_, hz3, hzc⟩ := World.cells?_some hcz
      have h0 := hzc 0 (by omega)
      rw [List.getElem?_eq_getElem (by omega : 0 < cz.length)] at h0
      have := World.cell?_spot h0
      simpa [Addr.add] using this
    obtain ⟨b, off, spot⟩ := a
    simp only at hspot
    subst hspot
    have c0 := hcell 0 (by omega)
    have c1 := hcell 1 (by omega)
    rw [Go.WideShapes.add_plain, Go.WideShapes.add_plain] at c0 c1
    rw [Go.WideShapes.add_plain] at hblk
    exact ⟨b, off, gv, x, rfl, hblk, c0, c1, hx1, hx2⟩
end Go.Proofs.YtncelpphbhcogaaDoor.Z
