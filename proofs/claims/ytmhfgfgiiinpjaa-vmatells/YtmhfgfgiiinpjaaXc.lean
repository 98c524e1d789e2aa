/- The document's between over regions; no condition but the ranges that each theorem names. -/
import Derived.Test.YtmhfgfgiiinpjaaXa
namespace Go.Proofs.Ytmhfgfgiiinpjaa.V
open Go.ChangeShapes Go.WideShapes Go.ChangeAt Go.RowKit
set_option linter.unusedVariables false
set_option maxRecDepth 8192

theorem btw_succ {l : List Rg} {k : Nat} (hk : k < l.length) (f t : Int) : (part f t l[k] = none → btw (l.take (k + 1)) f t = btw (l.take k) f t) ∧ ∀ q, part f t l[k] = some q → btw (l.take (k + 1)) f t = btw (l.take k) f t ++ [q] := by
  have e : l.take (k + 1) = l.take k ++ [l[k]] := by rw [List.take_add_one, List.getElem?_eq_getElem hk]; rfl
  rw [e, btw_append]
  constructor
  · intro h
    have : btw [l[k]] f t = [] := by unfold btw; rw [List.filterMap_cons, h]; rfl
    rw [this, List.append_nil]
  · intro q h
    have : btw [l[k]] f t = [q] := by unfold btw; rw [List.filterMap_cons, h]; rfl
    rw [this]
set_option maxHeartbeats 2000000 in
theorem between_r {w : World} {ao : Option Addr} {cap : Nat} {l : List Rg} (h : Rn w ao l) (hs : Rs l) (hl : l.length ≤ 1024) (f t : Int) (hf : -9223372036854775808 ≤ f ∧ f ≤ 2097152) (ht : -2097152 ≤ t ∧ t < 9223372036854775808) :
    Calls Try.prog 41 #[.slice ao l.length cap, .int .i64 f, .int .i64 t] w fun e w' => ∃ v, e = .returned v ∧ Rw w' w.heap.size v (btw l f t) ∧ Below w.heap.size w w' := by
  have HR : Hid (Rn w ao l) := h
  have HS : Hid (Rs l) := hs
  have CP : Hid (∀ (r : Rg) (W : World), r.Ok → Calls Try.prog 52 #[.agg #[.int .i64 r.p, .int .i64 r.n, .int .u8 r.m], .int .i64 f, .int .i64 t] W fun e w' => e = .returned (.tuple #[rv (ptV f t r).1, .bool (ptV f t r).2]) ∧ Below W.heap.size W w') := fun r W hr => part_r r f t hr hf ht W
  clear h hs hf ht
  go_enter Try.func41, Try.ntmps41
  go_wp2_with fail
  go_loopw [7, 8] (fun o i wr => ∃ (k : Nat) (v : Value), k ≤ l.length ∧ i = .int .i64 k ∧ v = o ∧ Hid (Rw wr w.heap.size v (btw (l.take k) f t)) ∧ Below w.heap.size w wr) (fun _ i _ => l.length - (iv i).toNat)
  case atStart => exact ⟨0, _, by omega, rfl, rfl, Rw.nil _ _, Below.refl _ _⟩
  case round =>
    obtain ⟨k, v, hk, rfl, rfl, HV, hb⟩ := hrel
    have HB : Hid (Below w.heap.size w wr) := hb
    by_cases hlt : k < l.length
    case' neg =>
      obtain rfl : k = l.length := by omega
      have HV2 : Hid (Rw wr w.heap.size v (btw l f t)) := by have := HV.out; rwa [List.take_length] at this
      go_wp2
      go_ret
      exact ⟨_, rfl, HV2.out, HB.out⟩
    case' pos =>
      obtain ⟨b, off, rfl, hbl, hc⟩ := HR.out.idx hlt
      obtain ⟨c0, c1, c2⟩ := hc wr hb
      have HOk : Hid (l[k].Ok) := HS.out.ok _ (List.getElem_mem hlt)
      have hbs := btw_succ hlt f t
      have ix1 : (0 : Int) ≤ (k : Int) := Int.natCast_nonneg k
      have ix2 : (k : Int) < (l.length : Int) := Int.ofNat_lt.2 hlt
      have hle : (btw (l.take k) f t).length ≤ 1024 := Nat.le_trans (btw_le _ _ _) (by rw [List.length_take]; omega)
      have CPk : Hid (∀ (W : World), Calls Try.prog 52 #[.agg #[.int .i64 l[k].p, .int .i64 l[k].n, .int .u8 l[k].m], .int .i64 f, .int .i64 t] W fun e w' => e = .returned (.tuple #[rv (ptV f t l[k]).1, .bool (ptV f t l[k]).2]) ∧ Below W.heap.size W w') := fun W => CP.out _ W HOk.out
      have HBS0 : Hid (part f t l[k] = none → btw (l.take (k + 1)) f t = btw (l.take k) f t) := hbs.1
      have HBS1 : Hid (∀ q, part f t l[k] = some q → btw (l.take (k + 1)) f t = btw (l.take k) f t ++ [q]) := hbs.2
      have hpt : ptV f t l[k] = (match part f t l[k] with | none => (z3, false) | some q => (q, true)) := rfl
      clear hc hb hbs
      generalize l[k] = r at *
      generalize ptV f t r = pv at *
      obtain ⟨pr, ps⟩ := pv
      obtain ⟨p, n, m⟩ := r
      simp only at c0 c1 c2 CPk
      go_wp2_with fail
      refine (CPk.out _).mono ?_
      rintro e w1 ⟨rfl, b1⟩
      have HB1 : Hid (Below w.heap.size w w1) := HB.out.trans (b1.mono HB.out.size)
      have HV1 : Hid (Rw w1 w.heap.size v (btw (l.take k) f t)) := HV.out.below b1
      clear b1 HV
      obtain ⟨pp, pn, pm⟩ := pr
      unfold rv
      cases hq : part f t ⟨p, n, m⟩ with
      | none =>
        rw [hq] at hpt
        obtain ⟨_, rfl⟩ := Prod.mk.inj hpt
        have HE : Hid (btw (l.take (k + 1)) f t = btw (l.take k) f t) := HBS0.out hq
        clear hq hpt
        go_wp2
        go_roundw
        case rel => exact ⟨k + 1, v, by omega, by go_num, rfl, by rw [HE.out]; exact HV1.out.alloc _, HB1.out.alloc HB1.out.size _⟩
        case measure => simp [iv]; omega
      | some q =>
        rw [hq] at hpt
        obtain ⟨h1, h2⟩ := Prod.mk.inj hpt
        subst h2 h1
        have HE : Hid (btw (l.take (k + 1)) f t = btw (l.take k) f t ++ [⟨pp, pn, pm⟩]) := HBS1.out _ hq
        clear hq hpt
        have HAP : Hid (∀ ty, ∃ v' w', (Builtin.append_ #[22, 22] ty #[v, .slice (some ⟨w1.heap.size + 1, 0, none⟩) 1 1]).run Try.prog ((w1.alloc (.cells #[.int .i64 pp, .int .i64 pn, .int .u8 pm] 29)).alloc (.cells #[.int .i64 pp, .int .i64 pn, .int .u8 pm] 29)) = .ok v' w' ∧ Jn ((w1.alloc (.cells #[.int .i64 pp, .int .i64 pn, .int .u8 pm] 29)).alloc (.cells #[.int .i64 pp, .int .i64 pn, .int .u8 pm] 29)) w.heap.size v (btw (l.take k) f t ++ [⟨pp, pn, pm⟩]) v' w') := fun ty =>
          app_jn (cx := 1) ((HV1.out.alloc _).alloc _) (lit1 _ pp pn pm _ (by simp)) (by simp; have := HB1.out.size; omega) (by simp; omega) ty
        go_wp2_with (at_builtin; refine wpList_app rfl (.tmp 28) (.tmp 30) rfl _ _ rfl rfl (HAP.out _) ?_; rintro v2 w2 hJ; have HJ : Hid (Rw w2 w.heap.size v2 (btw (l.take k) f t ++ [⟨pp, pn, pm⟩]) ∧ Below w.heap.size w w2) := ⟨hJ.1, hJ.below ((HB1.out.alloc HB1.out.size _).alloc (by simp; have := HB1.out.size; omega) _) (fun g hg => (row_lt HV1.out g hg).1)⟩; clear hJ)
        go_roundw
        case rel => exact ⟨k + 1, v2, by omega, by go_num, rfl, by rw [HE.out]; exact HJ.out.1, HJ.out.2⟩
        case measure => simp [iv]; omega
end Go.Proofs.Ytmhfgfgiiinpjaa.V
