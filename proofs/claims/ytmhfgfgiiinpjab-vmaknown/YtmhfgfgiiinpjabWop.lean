/- How what the statements of this seat take is read: regions, asks, pairs of numbers; no condition. -/
import Derived.Test.YtmhfgfgiiinpjabWb
import Derived.Lib.SmallJoins
import Derived.SizedLaws
namespace Go.Proofs.Ytmhfgfgiiinpjab
open Go.ChangeShapes Go.WideShapes Go.ChangeAt Go.RowKit Go.Deep
set_option linter.unusedVariables false

theorem own : ownKnob Try.prog.godebug = none := by kernel_rfl
theorem laidOut : laidOutB Try.prog = true := by kernel_rfl
namespace V
theorem Try.cells3 : Try.prog.cellsOf 3 = 1 := by kernel_rfl
theorem Try.cells5 : Try.prog.cellsOf 5 = 1 := by kernel_rfl
theorem Try.cellsRg : Try.prog.cellsOf 26 = 3 := by kernel_rfl
theorem Try.cellsAsk : Try.prog.cellsOf 40 = 4 := by kernel_rfl
theorem wf_u8 {n : Int} (h : (Lit.int .u8 n).wf = true) : 0 ≤ n ∧ n < 256 := by
  have := bounds_u8 h
  omega
theorem wf_i64 {n : Int} (h : (Lit.int .i64 n).wf = true) : -9223372036854775808 ≤ n ∧ n < 9223372036854775808 := by
  have := bounds_i64 h
  omega
theorem okWide_array {P : Program} {w : World} {r : Reach} {base : Nat} {t : TypeId} {v : Value} {n : Nat} {e : TypeId} (ht : P.underlying t = some (.array n e)) (h : Value.okWide P w r base t v) : ∃ cs, v = .agg cs ∧ cs.size = P.cellsOf t := by
  simp only [Value.okWide, ht] at h
  obtain ⟨cs, h1, h2, _⟩ := h
  exact ⟨cs, h1, h2⟩
theorem arr2 {α : Type} {cs : Array α} (h : cs.size = 2) : ∃ c0 c1, cs = #[c0, c1] := by
  obtain ⟨l⟩ := cs
  match l, h with
  | [c0, c1], _ => exact ⟨c0, c1, rfl⟩
theorem arr4 {α : Type} {cs : Array α} (h : cs.size = 4) : ∃ c0 c1 c2 c3, cs = #[c0, c1, c2, c3] := by
  obtain ⟨l⟩ := cs
  match l, h with
  | [c0, c1, c2, c3], _ => exact ⟨c0, c1, c2, c3, rfl⟩
theorem lst3 {α : Type} {l : List α} (h : l.length = 3) : ∃ c0 c1 c2, l = [c0, c1, c2] := by
  match l, h with
  | [c0, c1, c2], _ => exact ⟨c0, c1, c2, rfl⟩
theorem lst4 {α : Type} {l : List α} (h : l.length = 4) : ∃ c0 c1 c2 c3, l = [c0, c1, c2, c3] := by
  match l, h with
  | [c0, c1, c2, c3], _ => exact ⟨c0, c1, c2, c3, rfl⟩
theorem trod_array2 {H : Type} {enc : TypeId × Value → H} {P : Program} {w : World} {base : Nat} {spare : Nat → Bool} {held : Bool} {t e : TypeId} {fuel : Nat} {c0 c1 : Value} {x : DataW H × List MemPlace} (ht : P.underlying t = some (.array 2 e)) (hce : P.cellsOf e = 1)
    (h : DataW.trod enc P w base spare held fuel t [c0, c1] = some x) :
    ∃ y0 y1 n, DataW.trod enc P w base spare held n e [c0] = some y0 ∧ DataW.trod enc P w base spare held n e [c1] = some y1 := by
  cases fuel with
  | zero => simp [DataW.trod] at h
  | succ n =>
    unfold DataW.trod at h
    rw [ht] at h
    have r2 : List.range 2 = [0, 1] := rfl
    simp [r2, hce] at h
    obtain ⟨_, h⟩ := h
    cases h0 : DataW.trod enc P w base spare held n e [c0] with
    | none => simp [h0] at h
    | some y0 =>
      cases h1 : DataW.trod enc P w base spare held n e [c1] with
      | none => simp [h0, h1] at h
      | some y1 => exact ⟨y0, y1, n, h0, h1⟩
theorem open_ask4 {H : Type} {enc : TypeId × Value → H} {W : World} {fuel : Nat} {cs : List Value} {x : DataW H × List MemPlace} (hl : cs.length = 4)
    (h : DataW.trod enc Try.prog W 0 (fun _ => true) true fuel 40 cs = some x) :
    ∃ p n m t, cs = [.int .i64 p, .int .i64 n, .int .u8 m, .int .i64 t] ∧ wfR ⟨p, n, m⟩ ∧ (-9223372036854775808 ≤ t ∧ t < 9223372036854775808) := by
  obtain ⟨c0, c1, c2, c3, rfl⟩ := lst4 hl
  obtain ⟨xs, n, _, hx, _, hlen, hg⟩ := DataW.trod_struct Try.underlying40 h
  match xs, hlen with
  | [z0, z1, z2, z3], _ =>
    have t0 := hg 0 _ rfl
    have t1 := hg 1 _ rfl
    have t2 := hg 2 _ rfl
    have t3 := hg 3 _ rfl
    simp [Try.cells3, Try.cells5] at t0 t1 t2 t3
    obtain ⟨a0, e0, _, w0⟩ := DataW.trod_int Try.underlying3 t0
    obtain ⟨a1, e1, _, w1⟩ := DataW.trod_int Try.underlying3 t1
    obtain ⟨a2, e2, _, w2⟩ := DataW.trod_int Try.underlying5 t2
    obtain ⟨a3, e3, _, w3⟩ := DataW.trod_int Try.underlying3 t3
    simp at e0 e1 e2 e3
    subst e0 e1 e2 e3
    exact ⟨a0, a1, a2, a3, rfl, ⟨wf_i64 w0, wf_i64 w1, wf_u8 w2⟩, wf_i64 w3⟩
theorem open_ask {H : Type} {enc : TypeId × Value → H} {W : World} {base : Nat} {v : Value} {d : DataW H} {p : List MemPlace} (hv : Value.okWide Try.prog W .any base 40 v)
    (h : DataW.Trod enc Try.prog W 0 (fun _ => true) true 40 v d p) : ∃ p n m t, v = .agg #[.int .i64 p, .int .i64 n, .int .u8 m, .int .i64 t] ∧ wfR ⟨p, n, m⟩ ∧ (-9223372036854775808 ≤ t ∧ t < 9223372036854775808) := by
  obtain ⟨cs, rfl, hsz⟩ := okWide_struct Try.underlying40 hv
  obtain ⟨c0, c1, c2, c3, rfl⟩ := arr4 (hsz.trans Try.cellsAsk)
  obtain ⟨fuel, hf⟩ := h
  obtain ⟨p, n, m, t, e, h1, h2⟩ := open_ask4 rfl hf
  simp [Value.cells] at e
  obtain ⟨rfl, rfl, rfl, rfl⟩ := e
  exact ⟨p, n, m, t, rfl, h1, h2⟩
theorem open_reg {H : Type} {enc : TypeId × Value → H} {W : World} {fuel : Nat} {cs : List Value} {x : DataW H × List MemPlace} (hl : cs.length = 3)
    (h : DataW.trod enc Try.prog W 0 (fun _ => true) true fuel 26 cs = some x) :
    ∃ r : Rg, cs = [.int .i64 r.p, .int .i64 r.n, .int .u8 r.m] ∧ wfR r := by
  obtain ⟨c0, c1, c2, rfl⟩ := lst3 hl
  obtain ⟨xs, n, _, hx, _, hlen, hg⟩ := DataW.trod_struct Try.underlying26 h
  match xs, hlen with
  | [z0, z1, z2], _ =>
    have t0 := hg 0 _ rfl
    have t1 := hg 1 _ rfl
    have t2 := hg 2 _ rfl
    simp [Try.cells3, Try.cells5] at t0 t1 t2
    obtain ⟨a0, e0, _, w0⟩ := DataW.trod_int Try.underlying3 t0
    obtain ⟨a1, e1, _, w1⟩ := DataW.trod_int Try.underlying3 t1
    obtain ⟨a2, e2, _, w2⟩ := DataW.trod_int Try.underlying5 t2
    simp at e0 e1 e2
    subst e0 e1 e2
    exact ⟨⟨a0, a1, a2⟩, rfl, wf_i64 w0, wf_i64 w1, wf_u8 w2⟩
theorem list_of {P : Nat → Rg → Prop} : ∀ n : Nat, (∀ i, i < n → ∃ r, P i r) → ∃ l : List Rg, l.length = n ∧ ∀ i (hi : i < l.length), P i l[i]
  | 0, _ => ⟨[], rfl, fun i hi => by simp at hi⟩
  | n + 1, h => by
    obtain ⟨l, hl, hp⟩ := list_of n (fun i hi => h i (by omega))
    obtain ⟨r, hr⟩ := h n (by omega)
    refine ⟨l ++ [r], by simp [hl], fun i hi => ?_⟩
    by_cases c : i < l.length
    · rw [List.getElem_append_left c]; exact hp i c
    · have : i = l.length := by simp at hi; omega
      subst this
      rw [List.getElem_append_right (Nat.le_refl _)]
      simp only [Nat.sub_self, List.getElem_cons_zero]
      rw [hl]; exact hr
theorem open_regs {H : Type} {enc : TypeId × Value → H} {W : World} {a0 : Option Addr} {len cap : Nat} {d : DataW H} {p : List MemPlace}
    (h : DataW.Trod enc Try.prog W 0 (fun _ => true) true 23 (.slice a0 len cap) d p) : ∃ l : List Rg, l.length = len ∧ Rn W a0 l ∧ len ≤ cap ∧ (∀ r ∈ l, wfR r) ∧ len ≤ maxLen ∧ cap ≤ maxLen := by
  obtain ⟨fuel, hf⟩ := h
  rcases DataW.trod_slice Try.underlying23 hf with ⟨hcs, hx⟩ | ⟨a, l, c, elems, rest, n, _, hcs, hx, _, hlc, hcm, hlen, hel, _, _⟩
  · simp [Value.cells] at hcs
    obtain ⟨rfl, rfl, rfl⟩ := hcs
    exact ⟨[], rfl, Or.inl rfl, Nat.le_refl _, by simp, Nat.zero_le _, Nat.zero_le _⟩
  · simp [Value.cells] at hcs
    obtain ⟨rfl, rfl, rfl⟩ := hcs
    by_cases hl0 : len = 0
    · subst hl0
      exact ⟨[], rfl, Or.inl rfl, hlc, by simp, Nat.zero_le _, hcm⟩
    have hspot : a.spot = none := by
      have hz := hel 0 (by omega)
      rw [List.getElem?_eq_getElem (by omega : 0 < elems.length)] at hz
      obtain ⟨cz, hcz, _⟩ := Option.bind_eq_some_iff.1 hz
      rw [Try.cellsRg] at hcz
      obtain ⟨_, hz7, hzc⟩ := World.cells?_some hcz
      have h0 := hzc 0 (by omega)
      rw [List.getElem?_eq_getElem (by omega : 0 < cz.length)] at h0
      have := World.cell?_spot h0
      simpa [Addr.add] using this
    obtain ⟨b, off, spot⟩ := a
    simp only at hspot
    subst hspot
    have key : ∀ i, i < len → ∃ r : Rg, (wfR r ∧ b < W.heap.size) ∧ W.cell? ⟨b, off + i * 3, none⟩ = some (.int .i64 r.p) ∧ W.cell? ⟨b, off + i * 3 + 1, none⟩ = some (.int .i64 r.n) ∧ W.cell? ⟨b, off + i * 3 + 2, none⟩ = some (.int .u8 r.m) := fun i hi => by
      have hi2 := hel i (by omega)
      rw [List.getElem?_eq_getElem (by omega : i < elems.length)] at hi2
      obtain ⟨cs, hcs, htr⟩ := Option.bind_eq_some_iff.1 hi2
      rw [Try.cellsRg] at hcs
      obtain ⟨_, hl3, hcell⟩ := World.cells?_some hcs
      have hblk := World.cells?_block hcs (by omega)
      rw [Go.WideShapes.add_plain] at hblk
      obtain ⟨r, rfl, hw⟩ := open_reg hl3 htr
      have c0 := hcell 0 (by omega)
      have c1 := hcell 1 (by omega)
      have c2 := hcell 2 (by omega)
      rw [Go.WideShapes.add_plain, Go.WideShapes.add_plain] at c0 c1 c2
      exact ⟨r, ⟨hw, hblk⟩, c0, c1, c2⟩
    obtain ⟨l, hl, hp⟩ := list_of len key
    refine ⟨l, hl, Or.inr ⟨b, off, rfl, (hp 0 (by omega)).1.2, fun i hi => (hp i hi).2⟩, hlc, fun r hr => ?_, by omega, hcm⟩
    obtain ⟨i, hi, rfl⟩ := List.getElem_of_mem hr
    exact (hp i hi).1.1
end V
end Go.Proofs.Ytmhfgfgiiinpjab
