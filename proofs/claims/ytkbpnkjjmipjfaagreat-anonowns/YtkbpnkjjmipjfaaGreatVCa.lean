/- A region that draws its order, whose operations read and whose callees leave the worlds of a class within it: one walk, in the order of the text; no condition. -/
import Derived.Test.YtkbpnkjjmipjfaaGreatVFa
import Derived.BigQuiet
namespace Go.Proofs.YtkbpnkjjmipjfaaGreat
open Go.ChangeShapes Go.WideShapes Go.ChangeAt Go.RowKit
set_option linter.unusedVariables false

structure Idx (S : World → Prop) where
  W : World
  h : S W
theorem wp_region_cls {P : Program} {id : Nat} {Q : Exit → Act → World → Prop} {a : Act} {w : World} {l : List Oper} (S : World → Prop) (hm : P.follows .mixedOrders = true) (hB : Region.lexB .any l.toArray = true) (hS : S w.drew)
    (h : wpQuiet P l.toArray (fun w' => ∃ n : Idx S, w' = n.W) (fun a' => ∀ w', (∃ n : Idx S, w' = n.W) → Q .normal a' w') l a) : (Code.region id l.toArray true).wp P Q a w :=
  wp_region_quiet (C := fun w' => ∃ n : Idx S, w' = n.W) hm hB ⟨⟨w.drew, hS⟩, rfl⟩ (by simpa using h)
theorem Calls.cls {P : Program} {f : FuncId} {args : Array Value} {S : World → Prop} {n : Idx S} {v : Value} (h : Calls P f args n.W (One v n.W)) (hst : ∀ w w', S w → Below w.heap.size w w' → S w') :
    Calls P f args n.W fun e w'' => e = .returned v ∧ ∃ m : Idx S, w'' = m.W := h.mono fun e w' he => ⟨he.1, ⟨⟨w', hst _ _ n.h he.2⟩, rfl⟩⟩
end Go.Proofs.YtkbpnkjjmipjfaaGreat
namespace Go.Proofs.YtkbpnkjjmipjfaaGreat
open Go.ChangeShapes Go.WideShapes Go.ChangeAt Go.RowKit
set_option linter.unusedVariables false

theorem Sev.ld {w : World} {g : Nat} {a : Ad} {c : Cf} (h : Sev w g a c) : (Instr.loadAt 28 (.pointer (some ⟨g, 0, none⟩))).run Tryz.prog w = .ok (.agg #[.int .i64 c.F, .int .i64 c.C, .int .i64 c.W, .int .i64 c.S, .int .i64 c.V, .int .i64 c.T, .int .u64 c.k.l1, .int .u64 c.k.llc, .int .u64 c.k.mi, .int .u64 c.k.fa, .int .u64 c.k.st, .int .u64 c.k.di, .int .u64 c.sl, .int .u64 c.pd, .int .u64 c.ft, .slice a.ta c.tn a.tc, .slice a.pa c.pn a.pc]) w := by
  obtain ⟨_, c0, c1, c2, c3, c4, c5, c6, c7, c8, c9, c10, c11, c12, c13, c14, c15, c16⟩ := h
  simp [go_sem, *]
theorem Ebx.ld {w : World} {b : Nat} {q : Option Addr} {m : Nat} {x : Pa} (h : Ebx w b q m x) : (Instr.loadAt 109 (.pointer (some ⟨b, 0, none⟩))).run Tryz.prog w = .ok (.agg #[.slice q x.n m, .int .i64 x.o, .int .i64 x.u, .int .i64 x.t, .int .i64 x.s, .int .i64 x.r, .int .i64 x.d, .int .i64 x.z]) w := by
  obtain ⟨_, c0, c1, c2, c3, c4, c5, c6, c7⟩ := h
  simp [go_sem, *]
end Go.Proofs.YtkbpnkjjmipjfaaGreat
namespace Go.Proofs.YtkbpnkjjmipjfaaGreat
open Go.ChangeShapes Go.WideShapes Go.ChangeAt Go.RowKit
set_option linter.unusedVariables false

theorem wpList_load_at {P : Program} {w : World} {ops : Array Oper} {rest : List Oper} {o : Oper} {a : Act} {Q : Exit → Act → World → Prop} (hgd : o.guard = none) (t : TypeId) (x : Operand)
    (ho : o.op = .load t x) (u v : Value) (hx : a.eval x = u) (hrun : (Instr.loadAt t u).run P w = .ok v w) (h : wpList P ops Q rest (a.put o.dst v) w) : wpList P ops Q (o :: rest) a w := by
  refine wpList_plain hgd fun K hK => ?_
  unfold Oper.wp
  simp [execOp, ho, hx, hrun, Result.andThen]
  exact hK _ _ h
theorem quiet_load_at {P : Program} {S : World → Prop} {a : Act} {o : Oper} {K : Act → Prop} (t : TypeId) (x : Operand) (ho : o.op = .load t x) (u v : Value) (hx : a.eval x = u)
    (hrun : ∀ n : Idx S, (Instr.loadAt t u).run P n.W = .ok v n.W) (hk : K (a.put o.dst v)) : o.quiet P a (fun w' => ∃ n : Idx S, w' = n.W) K := by
  refine ⟨v, fun w hw => ?_, hk⟩
  obtain ⟨n, rfl⟩ := hw
  unfold Oper.quietAt
  simp [execOp, ho, hx, hrun n, Result.andThen, Oper.quietUpon]
end Go.Proofs.YtkbpnkjjmipjfaaGreat
