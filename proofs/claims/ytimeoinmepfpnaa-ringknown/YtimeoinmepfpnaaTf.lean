/- A ring whose row is known, and what is asked of it one behind the other; no condition. -/
import Derived.Test.YtimeoinmepfpnaaRp
namespace Go.Proofs.Ytimeoinmepfpnaa.Ri
open Go.ChangeShapes Go.WideShapes Go.ChangeAt Go.RowKit
set_option linter.unusedVariables false
set_option maxRecDepth 8192

/-- A ring of the row L, in new memory. -/
structure Kn (W0 w : World) (p g : Nat) (L : List Int) : Prop where
  rx : Rx w p g L
  bel : Below W0.heap.size W0 w
  p0 : W0.heap.size ≤ p
  g0 : W0.heap.size ≤ g
theorem Kn.below {W0 w w' : World} {p g : Nat} {L : List Int} (h : Kn W0 w p g L) (k : Below w.heap.size w w') : Kn W0 w' p g L := ⟨h.rx.below k, h.bel.trans (k.mono h.bel.size), h.p0, h.g0⟩
theorem Kn.next {W0 w w' : World} {p g : Nat} {L L' : List Int} (h : Kn W0 w p g L) (r : Rx w' p g L') (k : Ch (One p) w w') : Kn W0 w' p g L' := ⟨r, h.bel.trans (k.to h.bel.size (fun i q => by cases q; exact h.p0)), h.p0, h.g0⟩
theorem Kn.tn {W0 w w' : World} {p g : Nat} {L L' : List Int} (h : Kn W0 w p g L) (t : Tn w p g L' w') : ∃ g', Kn W0 w' p g' L' := by
  obtain ⟨g', x, b, e, _⟩ := t.adm (B := W0.heap.size) h.p0 h.g0 h.bel.size
  exact ⟨g', x, h.bel.trans b, h.p0, e⟩
theorem Kn.list {W0 w : World} {p g : Nat} {L : List Int} (h : Kn W0 w p g L) : Calls Try.prog 13 #[.pointer (some ⟨p, 0, none⟩)] w fun e w' => ∃ v, e = .returned v ∧ Kn W0 w' p g L ∧ Lst w' v L :=
  (List_ok h.rx).mono fun e w' ⟨v, a, n⟩ => ⟨v, a, h.below n.2.1, n.1.lst⟩
theorem Kn.eq {W0 w : World} {p g : Nat} {L : List Int} (h : Kn W0 w p g L) (hl : L.length ≤ 100000) {v : Value} (l : Lst w v L) : Calls Try.prog 14 #[v, .slice (some ⟨w.heap.size, 0, none⟩) L.length L.length] (w.alloc (.cells (tv L).toArray 3)) fun e w' => e = .returned (.bool true) ∧ Kn W0 w' p g L :=
  (EqInts_any hl (l.below (below1 _ _)) (lst_new w L L.length)).mono fun e w' ⟨a, b⟩ => ⟨a, (h.below (below1 _ _)).below b⟩
theorem Kn.nxt1 {W0 w : World} {p g : Nat} {L L' : List Int} (h : Kn W0 w p g L) {pin x : Int} {k : Nat} (e : nxt nev pin L () = (some x, k, L', ())) : Calls Try.prog 18 #[.pointer (some ⟨p, 0, none⟩), .int .i64 pin, .func (.func 23) #[] #[]] w fun e w' => e = .returned (.tuple #[.int .i64 x, .int .i64 k, .int .i64 0]) ∧ Kn W0 w' p g L' :=
  (never_some h.rx e).mono fun e w' ⟨a, b, c⟩ => ⟨a, h.next b c⟩
theorem Kn.nxt0 {W0 w : World} {p g : Nat} {L L' : List Int} (h : Kn W0 w p g L) {pin : Int} {k : Nat} (e : nxt nev pin L () = (none, k, L', ())) : Calls Try.prog 18 #[.pointer (some ⟨p, 0, none⟩), .int .i64 pin, .func (.func 23) #[] #[]] w fun e w' => e = .returned (.tuple #[.int .i64 0, .int .i64 k, .int .i64 190]) ∧ Kn W0 w' p g L' :=
  (never_none h.rx e).mono fun e w' ⟨a, b, c⟩ => ⟨a, h.next b c⟩
theorem Kn.ev0 {W0 w : World} {p g : Nat} {L L' : List Int} (h : Kn W0 w p g L) {pin : Int} {k : Nat} (e : nxt evr pin L () = (none, k, L', ())) : Calls Try.prog 18 #[.pointer (some ⟨p, 0, none⟩), .int .i64 pin, .func (.func 24) #[] #[]] w fun e w' => e = .returned (.tuple #[.int .i64 0, .int .i64 k, .int .i64 190]) ∧ Kn W0 w' p g L' :=
  (ever_none h.rx e).mono fun e w' ⟨a, b, c⟩ => ⟨a, h.next b c⟩
theorem Kn.nil {W0 w : World} {p g : Nat} {L : List Int} (h : Kn W0 w p g L) (pin : Int) : Calls Try.prog 18 #[.pointer (some ⟨p, 0, none⟩), .int .i64 pin, .nilFunc] w fun e w' => e = .returned (.tuple #[.int .i64 0, .int .i64 0, .int .i64 2]) ∧ Kn W0 w' p g L := by
  obtain ⟨l, hh, r, _⟩ := h.rx
  exact (Next_nil r pin).mono fun e w' ⟨a, b⟩ => ⟨a, by rw [b]; exact h⟩
theorem Kn.add {W0 w : World} {p g : Nat} {L L' : List Int} {x er : Int} (h : Kn W0 w p g L) (hx : x < 9223372036854775808) (a : AdS L x L' er) : Calls Try.prog 10 #[.pointer (some ⟨p, 0, none⟩), .int .i64 x] w fun e w' => e = .returned (.int .i64 er) ∧ ∃ g', Kn W0 w' p g' L' :=
  (Add_is h.rx hx a).mono fun e w' ⟨b, t⟩ => ⟨b, h.tn t⟩
theorem Kn.rm {W0 w : World} {p g : Nat} {L L' : List Int} {x er : Int} (h : Kn W0 w p g L) (a : RmS L x L' er) : Calls Try.prog 20 #[.pointer (some ⟨p, 0, none⟩), .int .i64 x] w fun e w' => e = .returned (.int .i64 er) ∧ ∃ g', Kn W0 w' p g' L' :=
  (Remove_is h.rx a).mono fun e w' ⟨b, t⟩ => ⟨b, h.tn t⟩
theorem new_kn {W0 w : World} (b : Below W0.heap.size W0 w) : Calls Try.prog 8 #[] w fun e w' => ∃ p g, e = .returned (.pointer (some ⟨p, 0, none⟩)) ∧ Kn W0 w' p g [] :=
  (New_ok w).mono fun e w' ⟨a, r, k⟩ => ⟨_, _, a, ⟨[], 0, r, rfl⟩, b.trans (k.mono b.size), by have := b.size; omega, b.size⟩
theorem three_kn (W0 : World) : Calls Try.prog 22 #[] W0 fun e w' => ∃ p g, e = .returned (.pointer (some ⟨p, 0, none⟩)) ∧ Kn W0 w' p g [1, 2, 3] :=
  (three_ok W0).mono fun e w' ⟨p, g, a, b, c, d, f⟩ => ⟨p, g, a, b, c, d, f⟩
end Go.Proofs.Ytimeoinmepfpnaa.Ri
