/- R.Within; how what the statements take is read: a list of truths, a list of calls; no condition but those that each theorem names. -/
import Derived.Test.YtimeoinmepfpnaaRo
import Derived.Lib.SmallJoins
import Derived.SizedLaws
namespace Go.Proofs.Ytimeoinmepfpnaa.Ri
open Go.ChangeShapes Go.WideShapes Go.ChangeAt Go.RowKit
set_option linter.unusedVariables false
set_option maxRecDepth 8192

theorem within_eq (k n : Int) (hn : 0 < n) : (if k.tmod n < 0 then k.tmod n + n else k.tmod n) = k % n := by
  have h1 := Int.tmod_eq_emod (a := k) (b := n)
  have h2 := Int.emod_nonneg k (by omega : n ≠ 0)
  have h3 := Int.emod_lt_of_pos k hn
  have h5 : -n < k.tmod n := Int.lt_tmod_of_pos k hn
  rw [Int.tmod_eq_emod] at *
  split at h5 <;> split <;> omega
theorem Within_any (k n : Int) (h0 : 0 < n) (h1 : n < 4611686018427387904) (hk0 : -9223372036854775808 ≤ k) (hk1 : k < 9223372036854775808) (w : World) :
    Calls Try.prog 17 #[.int .i64 k, .int .i64 n] w fun e w' => e = .returned (.int .i64 (k % n)) ∧ w' = w := by
  have HE : Hid _ := within_eq k n h0
  have h2 : -n < k.tmod n := Int.lt_tmod_of_pos k h0
  have h3 : k.tmod n < n := Int.tmod_lt_of_pos k h0
  by_cases hz : k.tmod n < 0
  · rw [if_pos hz] at HE
    go_enter Try.func17, Try.ntmps17
    go_wp2
    go_ret
    exact ⟨ret_int HE.out, rfl⟩
  · rw [if_neg hz] at HE
    go_enter Try.func17, Try.ntmps17
    go_wp2
    go_ret
    exact ⟨ret_int HE.out, rfl⟩
/-- Truths that came in: they lie in blocks below B. -/
def Bs (B : Nat) (W : World) (ao : Option Addr) (T : List Bool) : Prop := ∀ i, i < T.length → ∃ b off, ao = some ⟨b, off, none⟩ ∧ b < B ∧ W.cell? ⟨b, off + i, none⟩ = some (.bool (T.getD i false))
theorem Bs.below {B : Nat} {W W' : World} {ao : Option Addr} {T : List Bool} (h : Bs B W ao T) (k : Below B W W') : Bs B W' ao T := fun i hi => by
  obtain ⟨b, off, e, hb, h1⟩ := h i hi
  exact ⟨b, off, e, hb, (World.cell?_of_block (w := W) (a := ⟨b, off + i, none⟩) (k.block b hb)).trans h1⟩
/-- A call that came in. -/
structure Dv where
  k : Int
  id : Int
  ao : Option Addr
  cap : Nat
  T : List Bool
  rest : Bool
structure Dok (B : Nat) (W : World) (y : Dv) : Prop where
  k0 : -9223372036854775808 ≤ y.k
  k1 : y.k < 9223372036854775808
  i0 : -9223372036854775808 ≤ y.id
  i1 : y.id < 9223372036854775808
  bs : Bs B W y.ao y.T
  le : y.T.length ≤ maxLen
def Dos (B : Nat) (W : World) (ao : Option Addr) (L : Nat) : Prop := ∀ i, i < L → ∃ (b off : Nat) (y : Dv), ao = some ⟨b, off, none⟩ ∧ b < B ∧ W.cell? ⟨b, off + i * 4, none⟩ = some (.int .i64 y.k) ∧ W.cell? ⟨b, off + i * 4 + 1, none⟩ = some (.int .i64 y.id) ∧ W.cell? ⟨b, off + i * 4 + 2, none⟩ = some (.slice y.ao y.T.length y.cap) ∧ W.cell? ⟨b, off + i * 4 + 3, none⟩ = some (.bool y.rest) ∧ Dok B W y
theorem Dok.below {B : Nat} {W W' : World} {y : Dv} (h : Dok B W y) (k : Below B W W') : Dok B W' y := ⟨h.k0, h.k1, h.i0, h.i1, h.bs.below k, h.le⟩
theorem Dos.below {B : Nat} {W W' : World} {ao : Option Addr} {L : Nat} (h : Dos B W ao L) (k : Below B W W') : Dos B W' ao L := fun i hi => by
  obtain ⟨b, off, y, e, hb, h1, h2, h3, h4, h5⟩ := h i hi
  have q := k.block b hb
  exact ⟨b, off, y, e, hb, (World.cell?_of_block (w := W) (a := ⟨b, _, none⟩) q).trans h1, (World.cell?_of_block (w := W) (a := ⟨b, _, none⟩) q).trans h2, (World.cell?_of_block (w := W) (a := ⟨b, _, none⟩) q).trans h3, (World.cell?_of_block (w := W) (a := ⟨b, _, none⟩) q).trans h4, h5.below k⟩
theorem laidOut : laidOutB Try.prog = true := by kernel_rfl
theorem Try.cells3 : Try.prog.cellsOf 3 = 1 := by kernel_rfl
theorem Try.cells4 : Try.prog.cellsOf 4 = 1 := by kernel_rfl
theorem Try.cellsBools : Try.prog.cellsOf 30 = 1 := by kernel_rfl
theorem Try.cellsDo : Try.prog.cellsOf 32 = 4 := by kernel_rfl
theorem wf_i64 {n : Int} (h : (Lit.int .i64 n).wf = true) : -9223372036854775808 ≤ n ∧ n < 9223372036854775808 := by
  have := bounds_i64 h
  omega
theorem lst1 {α : Type} {l : List α} (h : l.length = 1) : ∃ c0, l = [c0] := by
  match l, h with
  | [c0], _ => exact ⟨c0, rfl⟩
theorem lst4 {α : Type} {l : List α} (h : l.length = 4) : ∃ c0 c1 c2 c3, l = [c0, c1, c2, c3] := by
  match l, h with
  | [c0, c1, c2, c3], _ => exact ⟨c0, c1, c2, c3, rfl⟩
def vb : Option Value → Bool
  | some (.bool b) => b
  | _ => false
open Go.Deep in
theorem open_bl {H : Type} {enc : TypeId × Value → H} {W : World} {fuel : Nat} {cs : List Value} {x : DataW H × List MemPlace} (hcs : cs.length = 1)
    (h : DataW.trod enc Try.prog W 0 (fun _ => true) true fuel 30 cs = some x) : ∃ a0 T cap, cs = [.slice a0 T.length cap] ∧ Bs W.heap.size W a0 T ∧ T.length ≤ maxLen := by
  rcases DataW.trod_slice Try.underlying30 h with ⟨hc, hx⟩ | ⟨a, l, c, elems, rest, n, _, hc, hx, _, hlc, hcm, hlen, hel, _, _⟩
  · subst hc
    exact ⟨none, [], 0, rfl, fun i hi => by simp at hi, by simp⟩
  · subst hc
    refine ⟨some a, (List.range l).map (fun i => vb (W.cell? (a.add i))), c, by simp, fun i hi => ?_, by simp; omega⟩
    simp at hi
    have one : ∀ i, i < l → ∃ b, W.cell? (a.add i) = some (.bool b) := fun i hi => by
      have hi2 := hel i hi
      rw [List.getElem?_eq_getElem (by omega : i < elems.length)] at hi2
      obtain ⟨cs, hcs, htr⟩ := Option.bind_eq_some_iff.1 hi2
      rw [Try.cells4] at hcs
      obtain ⟨_, hl3, hcell⟩ := World.cells?_some hcs
      obtain ⟨c0, rfl⟩ := lst1 hl3
      obtain ⟨b, e0, _⟩ := DataW.trod_bool Try.underlying4 htr
      simp at e0
      subst e0
      have := hcell 0 (by omega)
      simp [Nat.mul_one] at this
      exact ⟨b, this⟩
    obtain ⟨bi, hbi⟩ := one i hi
    obtain ⟨b, off, spot⟩ := a
    have hspot : spot = none := by
      obtain ⟨b0, hb0⟩ := one 0 (by omega)
      simpa [Addr.add] using World.cell?_spot hb0
    subst hspot
    refine ⟨b, off, rfl, ?_, ?_⟩
    · have := hbi
      rw [Go.WideShapes.add_plain] at this
      exact World.block_lt_of_cell? W _ this
    · have e : ((List.range l).map (fun i => vb (W.cell? ((⟨b, off, none⟩ : Addr).add i)))).getD i false = bi := by
        rw [List.getD_eq_getElem?_getD, List.getElem?_map, List.getElem?_range hi]
        simp only [Option.map_some, Option.getD_some]
        rw [hbi]
        rfl
      rw [e, ← hbi, Go.WideShapes.add_plain]
open Go.Deep in
theorem open_bools {H : Type} {enc : TypeId × Value → H} {W : World} {a0 : Option Addr} {len cap : Nat} {d : DataW H} {p : List MemPlace}
    (h : DataW.Trod enc Try.prog W 0 (fun _ => true) true 30 (.slice a0 len cap) d p) : ∃ T : List Bool, T.length = len ∧ Bs W.heap.size W a0 T ∧ len ≤ maxLen := by
  obtain ⟨fuel, hf⟩ := h
  obtain ⟨a1, T, c1, e, hb, hl⟩ := open_bl (by simp [Value.cells]) hf
  simp [Value.cells] at e
  obtain ⟨rfl, rfl, rfl⟩ := e
  exact ⟨T, rfl, hb, hl⟩
open Go.Deep in
theorem open_do4 {H : Type} {enc : TypeId × Value → H} {W : World} {fuel : Nat} {cs : List Value} {x : DataW H × List MemPlace} (hl : cs.length = 4)
    (h : DataW.trod enc Try.prog W 0 (fun _ => true) true fuel 32 cs = some x) : ∃ y : Dv, cs = [.int .i64 y.k, .int .i64 y.id, .slice y.ao y.T.length y.cap, .bool y.rest] ∧ Dok W.heap.size W y := by
  obtain ⟨c0, c1, c2, c3, rfl⟩ := lst4 hl
  obtain ⟨xs, n, _, hx, _, hlen, hg⟩ := DataW.trod_struct Try.underlying32 h
  match xs, hlen with
  | [z0, z1, z2, z3], _ =>
    have t0 := hg 0 _ rfl
    have t1 := hg 1 _ rfl
    have t2 := hg 2 _ rfl
    have t3 := hg 3 _ rfl
    simp [Try.cells3, Try.cells4, Try.cellsBools] at t0 t1 t2 t3
    obtain ⟨a0, e0, _, w0⟩ := DataW.trod_int Try.underlying3 t0
    obtain ⟨a1, e1, _, w1⟩ := DataW.trod_int Try.underlying3 t1
    obtain ⟨ao, T, cap, e2, hb, hlT⟩ := open_bl (by simp) t2
    obtain ⟨a3, e3, _⟩ := DataW.trod_bool Try.underlying4 t3
    simp at e0 e1 e2 e3
    subst e0 e1 e2 e3
    exact ⟨⟨a0, a1, ao, cap, T, a3⟩, rfl, (wf_i64 w0).1, (wf_i64 w0).2, (wf_i64 w1).1, (wf_i64 w1).2, hb, hlT⟩
open Go.Deep in
theorem open_dos {H : Type} {enc : TypeId × Value → H} {W : World} {a0 : Option Addr} {len cap : Nat} {d : DataW H} {p : List MemPlace}
    (h : DataW.Trod enc Try.prog W 0 (fun _ => true) true 22 (.slice a0 len cap) d p) : Dos W.heap.size W a0 len ∧ len ≤ maxLen := by
  obtain ⟨fuel, hf⟩ := h
  rcases DataW.trod_slice Try.underlying22 hf with ⟨hcs, hx⟩ | ⟨a, l, c, elems, rest, n, _, hcs, hx, _, hlc, hcm, hlen, hel, _, _⟩
  · simp [Value.cells] at hcs
    obtain ⟨rfl, rfl, rfl⟩ := hcs
    exact ⟨fun i hi => by omega, by unfold maxLen; omega⟩
  · simp [Value.cells] at hcs
    obtain ⟨rfl, rfl, rfl⟩ := hcs
    refine ⟨fun i hi => ?_, by omega⟩
    have hi2 := hel i hi
    rw [List.getElem?_eq_getElem (by omega : i < elems.length)] at hi2
    obtain ⟨cs, hcs, htr⟩ := Option.bind_eq_some_iff.1 hi2
    rw [Try.cellsDo] at hcs
    obtain ⟨_, hl3, hcell⟩ := World.cells?_some hcs
    have hblk := World.cells?_block hcs (by omega)
    obtain ⟨y, rfl, hd⟩ := open_do4 hl3 htr
    have hspot : a.spot = none := by
      have hz := hel 0 (by omega)
      rw [List.getElem?_eq_getElem (by omega : 0 < elems.length)] at hz
      obtain ⟨cz, hcz, _⟩ := Option.bind_eq_some_iff.1 hz
      rw [Try.cellsDo] at hcz
      obtain ⟨_, hz3, hzc⟩ := World.cells?_some hcz
      have h0 := hzc 0 (by omega)
      rw [List.getElem?_eq_getElem (by omega : 0 < cz.length)] at h0
      have := World.cell?_spot h0
      simpa [Addr.add] using this
    obtain ⟨b, off, spot⟩ := a
    simp only at hspot
    subst hspot
    have c0 := hcell 0 (by omega)
    have c1 := hcell 1 (by omega)
    have c2 := hcell 2 (by omega)
    have c3 := hcell 3 (by omega)
    rw [Go.WideShapes.add_plain, Go.WideShapes.add_plain] at c0 c1 c2 c3
    rw [Go.WideShapes.add_plain] at hblk
    exact ⟨b, off, y, rfl, hblk, c0, c1, c2, c3, hd⟩
end Go.Proofs.Ytimeoinmepfpnaa.Ri
