/- Find of package vma: what it answers; no condition but those named. -/
import Derived.Test.YtmhfgfgiiinpjaaWj
namespace Go.Proofs.Ytmhfgfgiiinpjaa.V
open Go.ChangeShapes Go.WideShapes Go.ChangeAt Go.RowKit
set_option linter.unusedVariables false
set_option maxRecDepth 8192

def z3 : Rg := ⟨0, 0, 0⟩
def fo (l : List Rg) (x : Int) : Rg × Bool := match fnd l x with
  | none => (z3, false)
  | some r => (r, true)
def fiV (l : List Rg) (x : Int) : Rg × Bool × Int := if chk l ≠ 0 then (z3, false, chk l) else if x < 0 ∨ 1048576 ≤ x then (z3, false, 2) else ((fo l x).1, (fo l x).2, 0)
def Fn3 (w : World) (a : Rg × Bool × Int) (e : Ending) (w' : World) : Prop := e = .returned (.tuple #[rv a.1, .bool a.2.1, .int .i64 a.2.2]) ∧ Below w.heap.size w w'
theorem res3 {fn : Func} {p u v : Tmp} {ty : TypeId} (h : fn.results = #[.cell p ty, .tmp u, .tmp v]) (tmps : Array Value) (w : World) (ad : Addr) (a b c : Value) (hp : tmps.getD p undef = .pointer (some ad)) (hu : tmps.getD u undef = b) (hv : tmps.getD v undef = c) (hl : (loadVar ty ad).run Try.prog w = .ok a w) :
    (results fn tmps).run Try.prog w = .ok (.tuple #[a, b, c]) w := by
  simp only [results, h]
  simp [Sem.run_bind, Result.andThen, asAddr] at *
  simp [hp, hu, hv, hl]
/-- The result's box, ahead of the store that writes it. -/
structure Bz (w w1 : World) : Prop where
  be : Below w.heap.size w w1
  bx : ∃ old : Array Value, old.size = 3 ∧ w1.heap[w.heap.size]? = some (.cells old 29 (0, 0))
theorem Bz.new (w : World) : Bz w (w.alloc (.cells #[.int .i64 0, .int .i64 0, .int .u8 0] 29)) := ⟨below1 w _, _, rfl, heap_alloc_last w _⟩
theorem Bz.next {w w1 w2 : World} (h : Bz w w1) (k : Below w1.heap.size w1 w2) : Bz w w2 := by
  obtain ⟨old, h1, h2⟩ := h.bx
  refine ⟨bs h.be k, old, h1, ?_⟩
  have hl : w.heap.size < w1.heap.size := (Array.getElem?_eq_some_iff.1 h2).1
  rw [k.block _ hl]; exact h2
theorem Bz.fin {w w1 : World} (h : Bz w w1) (r : Rg) : (loadVar 29 ⟨w.heap.size, 0, none⟩).run Try.prog (w1.setRow w.heap.size #[.int .i64 r.p, .int .i64 r.n, .int .u8 r.m]) = .ok (rv r) (w1.setRow w.heap.size #[.int .i64 r.p, .int .i64 r.n, .int .u8 r.m]) ∧ Below w.heap.size w (w1.setRow w.heap.size #[.int .i64 r.p, .int .i64 r.n, .int .u8 r.m]) := by
  obtain ⟨old, h1, h2⟩ := h.bx
  refine ⟨run_loadVar_row _ w.heap.size 29 29 _ (0, 0) _ (setRow_heap w1 w.heap.size old _ 29 (0, 0) h2) Try.underlying29 rfl Try.sizeRg, h.be.os, h.be.tape, h.be.output, ?_, fun k hk => ?_⟩
  · rw [setRow_size]; exact h.be.size
  · rw [setRow_other _ _ _ _ (Nat.ne_of_lt hk)]; exact h.be.block k hk
theorem Bz.sto {w w1 : World} (h : Bz w w1) {ops : Array Oper} {rest : List Oper} {o : Oper} {a : Act} {Q : Exit → Act → World → Prop} (hgd : o.guard = none) (x y : Operand) (ho : o.op = .store 29 x y) (r : Rg)
    (hx : a.eval x = .pointer (some ⟨w.heap.size, 0, none⟩)) (hy : a.eval y = .agg #[.int .i64 r.p, .int .i64 r.n, .int .u8 r.m]) (k : wpList Try.prog ops Q rest (a.put o.dst undef) (w1.setRow w.heap.size #[.int .i64 r.p, .int .i64 r.n, .int .u8 r.m])) : wpList Try.prog ops Q (o :: rest) a w1 := by
  obtain ⟨old, h1, h2⟩ := h.bx
  exact wpList_store_row hgd 29 x y ho w.heap.size _ hx hy 29 old h2 Try.sizeRg h1 (by simp [Value.oneCell']) k
set_option maxHeartbeats 2000000 in
theorem Find_ok {w : World} {ao : Option Addr} {cap : Nat} {l : List Rg} (h : Ri w ao cap l) (x : Int) :
    Calls Try.prog 22 #[.slice ao l.length cap, .int .i64 x] w (Fn3 w (fiV l x)) := by
  have HZ : Hid (Bz w (w.alloc (.cells #[.int .i64 0, .int .i64 0, .int .u8 0] 29))) := Bz.new w
  have HC : Hid (∀ W, Below w.heap.size w W → Calls Try.prog 10 #[.slice ao l.length cap] W fun e w' => e = .returned (.int .i64 (chk l)) ∧ Below W.heap.size W w') := fun W hW => (h.below hW).check
  rcases chk_cases l with he | he | he
  case' inr.inl => have HA : Hid (fiV l x = (z3, false, 2)) := by have : fiV l x = (z3, false, chk l) := if_pos (by rw [he]; decide); rwa [he] at this
  case' inr.inr => have HA : Hid (fiV l x = (z3, false, 3)) := by have : fiV l x = (z3, false, chk l) := if_pos (by rw [he]; decide); rwa [he] at this
  case' inl =>
    have HV : Hid (fiV l x = if x < 0 ∨ 1048576 ≤ x then (z3, false, 2) else ((fo l x).1, (fo l x).2, 0)) := if_neg (fun q => q he)
    have hM : May l := chk_may.1 he
    have HR : Hid (∀ W, Below w.heap.size w W → Calls Try.prog 48 #[.slice ao l.length cap, .int .i64 x] W fun e w' => ∃ k : Nat, e = .returned (.int .i64 (k : Nat)) ∧ Rch l x k ∧ Below W.heap.size W w') := fun W hW => reaching_ok (h.rn.below hW) hM.2.rs x
    have HRn : Hid (∀ W, Below w.heap.size w W → Rn W ao l) := fun W hW => h.rn.below hW
    have HS : Hid (Rs l) := hM.2.rs
    clear hM
  all_goals rw [he] at HC
  all_goals clear h he
  case inr.inl =>
    go_enter Try.func22, Try.ntmps22
    go_wp2_with fail
    refine (HC.out _ HZ.out.be).mono ?_
    rintro e w1 ⟨rfl, b1⟩
    have HZ1 : Hid (Bz w w1) := HZ.out.next b1
    clear b1
    go_wp2_with (refine HZ1.out.sto rfl (.tmp 4) (.tmp 13) rfl z3 rfl rfl ?_)
    exact bodyPost_ret (res3 Try.results22 _ _ _ _ _ _ rfl rfl rfl (HZ1.out.fin z3).1) rfl (by rw [HA.out]; exact ⟨rfl, (HZ1.out.fin z3).2⟩)
  case inr.inr =>
    go_enter Try.func22, Try.ntmps22
    go_wp2_with fail
    refine (HC.out _ HZ.out.be).mono ?_
    rintro e w1 ⟨rfl, b1⟩
    have HZ1 : Hid (Bz w w1) := HZ.out.next b1
    clear b1
    go_wp2_with (refine HZ1.out.sto rfl (.tmp 4) (.tmp 13) rfl z3 rfl rfl ?_)
    exact bodyPost_ret (res3 Try.results22 _ _ _ _ _ _ rfl rfl rfl (HZ1.out.fin z3).1) rfl (by rw [HA.out]; exact ⟨rfl, (HZ1.out.fin z3).2⟩)
  case inl =>
    go_enter Try.func22, Try.ntmps22
    go_wp2_with fail
    refine (HC.out _ HZ.out.be).mono ?_
    rintro e w1 ⟨rfl, b1⟩
    have HZ1 : Hid (Bz w w1) := HZ.out.next b1
    clear b1
    by_cases hx : x < 0 ∨ 1048576 ≤ x
    case pos =>
      have HA : Hid (fiV l x = (z3, false, 2)) := HV.out.trans (if_pos hx)
      by_cases hx0 : x < 0
      case' neg => have hx1 : 1048576 ≤ x := hx.resolve_left hx0
      all_goals
        go_wp2_with (refine HZ1.out.sto rfl (.tmp 4) (.tmp 21) rfl z3 rfl rfl ?_)
        exact bodyPost_ret (res3 Try.results22 _ _ _ _ _ _ rfl rfl rfl (HZ1.out.fin z3).1) rfl (by rw [HA.out]; exact ⟨rfl, (HZ1.out.fin z3).2⟩)
    case neg =>
      have HA : Hid (fiV l x = ((fo l x).1, (fo l x).2, 0)) := HV.out.trans (if_neg hx)
      have hx0 : ¬ x < 0 := fun q => hx (Or.inl q)
      have hx1 : x < 1048576 := by omega
      clear hx
      go_wp2_with fail
      refine (HR.out _ HZ1.out.be).mono ?_
      rintro e w2 ⟨k, rfl, hk, b2⟩
      have HZ2 : Hid (Bz w w2) := HZ1.out.next b2
      have HK := hk.find HS.out
      have HF : Hid (∀ hk : k < l.length, (x < l[k].p → fnd l x = none) ∧ (l[k].p ≤ x → fnd l x = some l[k])) := HK.2
      have HF0 : Hid (k = l.length → fnd l x = none) := HK.1
      have hkl := hk.le
      clear b2 hk HK
      have ix1 : (0 : Int) ≤ (k : Int) := Int.natCast_nonneg k
      by_cases hlt : k < l.length
      case neg =>
        obtain rfl : k = l.length := by omega
        have HA2 : Hid (fo l x = (z3, false)) := by unfold fo; rw [HF0.out rfl]; rfl
        clear hlt
        go_wp2_with (refine HZ2.out.sto rfl (.tmp 4) (.tmp 38) rfl z3 rfl rfl ?_)
        exact bodyPost_ret (res3 Try.results22 _ _ _ _ _ _ rfl rfl rfl (HZ2.out.fin z3).1) rfl (by rw [HA.out, HA2.out]; exact ⟨rfl, (HZ2.out.fin z3).2⟩)
      case pos =>
        obtain ⟨b, off, rfl, hbl, q0, q1, q2⟩ := (HRn.out w2 HZ2.out.be).at' hlt
        have ix2 : (k : Int) < (l.length : Int) := Int.ofNat_lt.2 hlt
        have ix3 : ((k : Int) == (l.length : Int)) = false := by simp; omega
        have HF1 : Hid ((x < l[k].p → fnd l x = none) ∧ (l[k].p ≤ x → fnd l x = some l[k])) := HF.out hlt
        generalize l[k] = r at *
        obtain ⟨p, n, m⟩ := r
        simp only at q0 q1 q2
        by_cases hp : x < p
        case pos =>
          have HA2 : Hid (fo l x = (z3, false)) := by unfold fo; rw [HF1.out.1 hp]; rfl
          go_wp2_with (refine HZ2.out.sto rfl (.tmp 4) (.tmp 38) rfl z3 rfl rfl ?_)
          exact bodyPost_ret (res3 Try.results22 _ _ _ _ _ _ rfl rfl rfl (HZ2.out.fin z3).1) rfl (by rw [HA.out, HA2.out]; exact ⟨rfl, (HZ2.out.fin z3).2⟩)
        case neg =>
          have HA2 : Hid (fo l x = (⟨p, n, m⟩, true)) := by unfold fo; rw [HF1.out.2 (Int.not_lt.1 hp)]; rfl
          have hd : decide (x < p) = false := decide_eq_false hp
          go_wp2_with (refine HZ2.out.sto rfl (.tmp 4) (.tmp 42) rfl ⟨p, n, m⟩ rfl rfl ?_)
          exact bodyPost_ret (res3 Try.results22 _ _ _ _ _ _ rfl rfl rfl (HZ2.out.fin ⟨p, n, m⟩).1) rfl (by rw [HA.out, HA2.out]; exact ⟨rfl, (HZ2.out.fin ⟨p, n, m⟩).2⟩)
end Go.Proofs.Ytmhfgfgiiinpjaa.V
