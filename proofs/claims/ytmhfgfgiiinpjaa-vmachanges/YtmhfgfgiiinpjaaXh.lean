/- The statements' spoil: an answer is written over, nothing else; no condition but those named. -/
import Derived.Test.YtmhfgfgiiinpjaaXg
namespace Go.Proofs.Ytmhfgfgiiinpjaa.V
open Go.ChangeShapes Go.WideShapes Go.ChangeAt Go.RowKit
set_option linter.unusedVariables false
set_option maxRecDepth 8192

/-- A row of the call's own, whatever it holds. -/
def Ow (w : World) (B : Nat) (v : Value) (n : Nat) : Prop := ∃ L, w.ownsRow B 29 3 v n L
theorem Ow.form {w : World} {B : Nat} {v : Value} {n : Nat} (h : Ow w B v n) : (v = .slice none 0 0 ∧ n = 0) ∨ ∃ g cap, v = .slice (some ⟨g, 0, none⟩) n cap ∧ B ≤ g ∧ ∀ j, j < n * 3 → (w.cell? ⟨g, j, none⟩).isSome = true ∧ w.frozen? ⟨g, j, none⟩ = false := by
  obtain ⟨L, _, ⟨rfl, h2⟩ | ⟨g', cap, cur, rfl, hb, hw, hn, hm, hs, _⟩⟩ := h
  · exact Or.inl ⟨rfl, h2⟩
  · refine Or.inr ⟨g', cap, rfl, hb, fun j hj => ⟨?_, by simp [World.frozen?, hw]⟩⟩
    rw [cell_of_row w g' j _ 29 (0, 0) hw, Array.getElem?_eq_getElem (by omega)]
    rfl
theorem Ow.set {w : World} {B g cap n : Nat} (h : Ow w B (.slice (some ⟨g, 0, none⟩) n cap) n) (j : Nat) (u : Value) : Ow (w.setCell ⟨g, j, none⟩ u) B (.slice (some ⟨g, 0, none⟩) n cap) n := by
  obtain ⟨L, hL⟩ := h
  exact ⟨_, (World.ownsRow.stored hL j u).1⟩
theorem Ow.app {w : World} {B : Nat} {v : Value} {n : Nat} (h : Ow w B v n) {g : Nat} {p m u : Int} (hk : Rn w (some ⟨g, 0, none⟩) [⟨p, m, u⟩]) (hb : B ≤ w.heap.size) (hn : n ≤ 5000) (ty : TypeId) :
    ∃ v' w', (Builtin.append_ #[22, 22] ty #[v, .slice (some ⟨g, 0, none⟩) 1 1]).run Try.prog w = .ok v' w' ∧ Ow w' B v' (n + 1) ∧ w.grownBy w' v.ownBlock := by
  obtain ⟨i0, hi0, hz0, hz1, hz2⟩ := info_parts Try.infoRg
  obtain ⟨L, hL⟩ := h
  obtain ⟨v', w', hr, ho, hg, _⟩ := run_append_own w B 22 ty 29 i0 _ 3 24 Try.underlying22 hi0 hz0 hz1 hz2 rfl (by decide) v n L hL ⟨g, 0, none⟩ 1 1 (rcs [⟨p, m, u⟩]) (rcs_len _) hk.news (rcs_one _) (by unfold maxLen; omega) (by omega) hb
  exact ⟨v', w', hr, ⟨_, ho⟩, hg⟩
theorem Ow.own {w : World} {B : Nat} {v : Value} {n : Nat} (h : Ow w B v n) : ∀ g, v.ownBlock = some g → B ≤ g := fun g hg => by
  obtain ⟨L, hL⟩ := h
  exact (row_lt hL g hg).1
theorem Ow.alloc {w : World} {B : Nat} {v : Value} {n : Nat} (h : Ow w B v n) (o : Obj) : Ow (w.alloc o) B v n := by
  obtain ⟨L, hL⟩ := h
  exact ⟨L, row_eq hL (fun g hg => (below1 w o).block g (row_lt hL g hg).2)⟩
set_option maxHeartbeats 4000000 in
theorem spoil_ok {w : World} {v : Value} {l : List Rg} {B : Nat} (h : Rw w B v l) (hB : B ≤ w.heap.size) (hl : l.length ≤ 1024) :
    Calls Try.prog 15 #[v] w fun e w' => e = .returned (.tuple #[]) ∧ Below B w w' := by
  have H0 : Hid (Ow w B v l.length) := ⟨_, h⟩
  obtain ⟨n, hn⟩ : ∃ n, l.length = n := ⟨_, rfl⟩
  rw [hn] at H0 hl
  have hv : ∃ ao cap, v = .slice ao n cap := by obtain ⟨a, c, e, _⟩ := h.rn; exact ⟨a, c, by rw [e, hn]⟩
  clear h hn
  have HA : Hid (∀ W v k, Ow W B v k → B ≤ W.heap.size → k ≤ 5000 → ∀ ty, ∃ v' w', (Builtin.append_ #[22, 22] ty #[v, .slice (some ⟨W.heap.size, 0, none⟩) 1 1]).run Try.prog (W.alloc (.cells #[.int .i64 (-8), .int .i64 0, .int .u8 0] 29)) = .ok v' w' ∧ Ow w' B v' (k + 1) ∧ Below B W w') := fun W v k hW hb hk ty => by
    obtain ⟨v', w', h1, h2, h3⟩ := (hW.alloc (.cells #[.int .i64 (-8), .int .i64 0, .int .u8 0] 29)).app (lit1 W (-8) 0 0 _ rfl) (by simp; omega) hk ty
    exact ⟨v', w', h1, h2, ((Below.refl B W).alloc hb _).grown h3 (by simp; omega) (fun k e => hW.own k e)⟩
  obtain ⟨ao, cap, rfl⟩ := hv
  go_enter Try.func15, Try.ntmps15
  go_wp2_with fail
  go_loopw [2] (fun i wr => ∃ k : Nat, k ≤ n ∧ i = .int .i64 k ∧ Hid (Ow wr B (.slice ao n cap) n) ∧ Below B w wr) (fun i _ => n - (iv i).toNat)
  case atStart => exact ⟨0, by omega, rfl, H0, Below.refl _ _⟩
  case round =>
    obtain ⟨k, hk, rfl, HO, hb⟩ := hrel
    have HBw : Hid (Below B w wr) := hb
    have ix1 : (0 : Int) ≤ (k : Int) := Int.natCast_nonneg k
    by_cases hlt : k < n
    case pos =>
      rcases HO.out.form with ⟨_, h0⟩ | ⟨g, cp, ev, hg, hcl⟩
      · omega
      cases ev
      have ht : wr.there g (k * 3) 3 := fun j hj => hcl (k * 3 + j) (by omega)
      have ix2 : (k : Int) < (n : Int) := Int.ofNat_lt.2 hlt
      have HT : Hid (wr.there g (k * 3) (#[.int .i64 (-9), .int .i64 0, .int .u8 0] : Array Value).size) := ht
      have HN : Hid (Ow (wr.setCells g (k * 3) [.int .i64 (-9), .int .i64 0, .int .u8 0]) B (.slice (some ⟨g, 0, none⟩) n cap) n ∧ Below B w (wr.setCells g (k * 3) [.int .i64 (-9), .int .i64 0, .int .u8 0])) := ⟨((HO.out.set _ _).set _ _).set _ _, ((hb.setCell hg _).setCell hg _).setCell hg _⟩
      have HZ : Hid ((#[.int .i64 (-9), .int .i64 0, .int .u8 0] : Array Value).all (·.oneCell') = true) := by unfold Hid; simp [Value.oneCell']
      clear ht hcl hb
      go_wp2_with (refine wpList_store_mid rfl 29 (.tmp 13) (.tmp 12) rfl g (k * 3) #[.int .i64 (-9), .int .i64 0, .int .u8 0] rfl rfl HT.out Try.sizeRg HZ.out ?_)
      go_roundw
      case rel => exact ⟨k + 1, by omega, by go_num, HN.out.1, HN.out.2⟩
      case measure => simp [iv]; omega
    case neg =>
      obtain rfl : k = n := by omega
      clear hb
      go_wp2_with fail
      go_loopw [0, 3] (fun o i wr => ∃ (j : Nat) (v : Value), j ≤ 8 ∧ i = .int .i64 j ∧ v = o ∧ Hid (Ow wr B v (k + j)) ∧ Below B w wr) (fun _ i _ => 8 - (iv i).toNat)
      case atStart => exact ⟨0, _, by omega, rfl, rfl, HO.out, HBw.out⟩
      case round =>
        obtain ⟨j, v, hj, rfl, rfl, HV, hb⟩ := hrel
        have HB2 : Hid (Below B w wr) := hb
        by_cases hlt8 : j < 8
        case' neg =>
          obtain rfl : j = 8 := by omega
          clear hb
          go_wp2
          refine bodyPost_end (results_none Try.results15 _ _ _) rfl ?_
          exact ⟨rfl, HB2.out⟩
        case' pos =>
          have ij : (j : Int) < 8 := by omega
          have hsz : B ≤ wr.heap.size := Nat.le_trans hB hb.size
          clear hb
          go_wp2_with (at_builtin; refine wpList_app rfl (.tmp 18) (.tmp 20) rfl _ _ rfl rfl (HA.out wr v (k + j) HV.out hsz (by omega) _) ?_; rintro v2 w2 ⟨q2, b2⟩; have HR2 : Hid (Ow w2 B v2 (k + j + 1)) := q2; have HB3 : Hid (Below B w w2) := HB2.out.trans b2; clear q2 b2)
          go_roundw
          case rel => exact ⟨j + 1, v2, by omega, by go_num, rfl, HR2.out, HB3.out⟩
          case measure => simp [iv]; omega
end Go.Proofs.Ytmhfgfgiiinpjaa.V
