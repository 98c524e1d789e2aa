/- A slab that lies in memory: its struct, its map of frames to masks; what keeps it; its small functions; no condition but those that each theorem names. -/
import Derived.Test.YtkbpnkjjmipjfaaGreatVZm
import Derived.Test.YtkbpnkjjmipjfaaGreatVWb
import Derived.Laws.BitsAllLaws
import Derived.Lib.BitFns
namespace Go.Proofs.YtkbpnkjjmipjfaaGreat.P
open B Go.ChangeShapes Go.WideShapes Go.ChangeAt Go.RowKit
set_option linter.unusedVariables false
set_option maxRecDepth 8192

def sz (u : Nat) : Nat := if u = 4 then 64 else if u = 5 then 32 else 16
def pn (u : Nat) : Nat := if u = 4 then 4 else if u = 5 then 8 else 16
theorem use3 {u : Nat} (h : 4 ≤ u ∧ u ≤ 6) : u = 4 ∨ u = 5 ∨ u = 6 := by omega
theorem pn_le (u : Nat) : 4 ≤ pn u ∧ pn u ≤ 16 := by unfold pn; split; omega; split <;> omega
theorem sz_le (u : Nat) : 16 ≤ sz u ∧ sz u ≤ 64 := by unfold sz; split; omega; split <;> omega
theorem pn_sz (u : Nat) : pn u * sz u = 256 := by unfold pn sz; split; rfl; split <;> rfl
theorem two_pn (u : Nat) : 2 ^ pn u ≤ 65536 := Nat.le_trans (Nat.pow_le_pow_right (by omega) (pn_le u).2) (by decide)
abbrev Ms := Nat → Nat
def om (mk : Ms) : Nat → Option Nat := fun g => if mk g = 0 then none else some (mk g)
theorem om_some {mk : Ms} {g x : Nat} : om mk g = some x ↔ mk g = x ∧ x ≠ 0 := by
  unfold om
  split
  · rename_i h
    rw [h]
    constructor
    · intro z; cases z
    · rintro ⟨rfl, z⟩; exact absurd rfl z
  · rename_i h
    constructor
    · intro z; cases z; exact ⟨rfl, h⟩
    · rintro ⟨rfl, _⟩; rfl
theorem om_put (mk : Ms) (g x : Nat) (hx : x ≠ 0) : om (put mk g x) = pt (om mk) g (some x) := by
  funext z
  unfold om pt
  by_cases e : z = g
  · subst e
    rw [put_same, if_neg hx, if_pos rfl]
  · rw [put_other _ _ _ _ e, if_neg e]
theorem om_del (mk : Ms) (g : Nat) : om (put mk g 0) = pt (om mk) g none := by
  funext z
  unfold om pt
  by_cases e : z = g
  · subst e
    rw [put_same, if_pos rfl, if_pos rfl]
  · rw [put_other _ _ _ _ e, if_neg e]
structure Sl (w : World) (s b p u : Nat) (mk : Ms) : Prop where
  u4 : 4 ≤ u ∧ u ≤ 6
  lt : s < w.heap.size
  c0 : w.cell? ⟨s, 0, none⟩ = some (.pointer (some ⟨p, 0, none⟩))
  c1 : w.cell? ⟨s, 1, none⟩ = some (.int .u8 u)
  c2 : w.cell? ⟨s, 2, none⟩ = some (.int .i64 (sz u))
  c3 : w.cell? ⟨s, 3, none⟩ = some (.map (some b))
  mp : Mw w b 4096 (om mk)
  ne : s ≠ b
  ml : ∀ g, mk g < 2 ^ pn u
theorem Sl.of_eq {w w' : World} {s b p u : Nat} {mk : Ms} (h : Sl w s b p u mk) (hs : w.heap.size ≤ w'.heap.size) (e1 : w'.heap[s]? = w.heap[s]?) (e2 : w'.heap[b]? = w.heap[b]?) : Sl w' s b p u mk := by
  have c := fun i => World.cell?_of_block (w := w) (w' := w') (a := ⟨s, i, none⟩) e1
  exact { h with
    lt := Nat.lt_of_lt_of_le h.lt hs
    c0 := (c 0).trans h.c0
    c1 := (c 1).trans h.c1
    c2 := (c 2).trans h.c2
    c3 := (c 3).trans h.c3
    mp := h.mp.of_eq e2 hs }
theorem Sl.below {w w' : World} {s b p u : Nat} {mk : Ms} (h : Sl w s b p u mk) (k : Below w.heap.size w w') : Sl w' s b p u mk := h.of_eq k.size (k.block s h.lt) (k.block b h.mp.lt)
theorem Sl.kp {F F' : Nat → Prop} {w w' : World} {s b p u : Nat} {mk : Ms} (h : Sl w s b p u mk) (k : Kp F F' w w') (h1 : ¬ F s) (h2 : ¬ F b) : Sl w' s b p u mk := h.of_eq k.size (k.block s h.lt h1) (k.block b h.mp.lt h2)
theorem Sl.turned {w w' : World} {s b p u : Nat} {mk mk' : Ms} (h : Sl w s b p u mk) (g : w.grownBy w' (some b)) (hm : Mw w' b 4096 (om mk')) (hl : ∀ g, mk' g < 2 ^ pn u) : Sl w' s b p u mk' := by
  have e1 : w'.heap[s]? = w.heap[s]? := g.block s h.lt (some_ne h.ne)
  have c := fun i => World.cell?_of_block (w := w) (w' := w') (a := ⟨s, i, none⟩) e1
  exact ⟨h.u4, Nat.lt_of_lt_of_le h.lt g.size, (c 0).trans h.c0, (c 1).trans h.c1, (c 2).trans h.c2, (c 3).trans h.c3, hm, h.ne, hl⟩
theorem Sl.fr {w : World} {s b p u : Nat} {mk : Ms} (h : Sl w s b p u mk) {g : Nat} (hg : mk g ≠ 0) : g < 4096 := (h.mp.ok (om_some.2 ⟨rfl, hg⟩)).1
theorem mapw_nil (r : Option Nat) : ∀ w : World, (binOp .neq 122 (.map r) (.map none)).run Tryz.prog w = .ok (.bool r.isSome) w := fun w => by rw [run_neq_map_nil w _ _ _ r Tryz.underlying122]; cases r <;> rfl
theorem smade_s {w : World} {s b p u : Nat} {mk : Ms} (h : Sl w s b p u mk) : Calls Tryz.prog 111 #[.pointer (some ⟨s, 0, none⟩)] w fun e w' => e = .returned (.bool true) ∧ w' = w := by
  have hc := h.c3
  have hz := mapw_nil (some b)
  clear h
  go_enter Tryz.func111, Tryz.ntmps111
  go_wp2
  go_ret
  exact ⟨rfl, rfl⟩
theorem places_s {w : World} {s b p u : Nat} {mk : Ms} (h : Sl w s b p u mk) : Calls Tryz.prog 120 #[.pointer (some ⟨s, 0, none⟩)] w fun e w' => e = .returned (.int .i64 (pn u : Nat)) ∧ w' = w := by
  have hc := h.c2
  have hd : ((256 : Int)).tdiv (sz u : Int) = (pn u : Int) := by
    rcases use3 h.u4 with rfl | rfl | rfl <;> rfl
  have hs := sz_le u
  have hz : ¬ (sz u : Int) = 0 := by omega
  have hpn := pn_le u
  clear h
  generalize sz u = x at *
  generalize pn u = y at *
  go_enter Tryz.func120, Tryz.ntmps120
  go_wp2
  go_ret
  exact ⟨rfl, rfl⟩
theorem address_s {w : World} {s b p u : Nat} {mk : Ms} (h : Sl w s b p u mk) (g i : Nat) (hg : g < 4096) (hi : i < pn u) : Calls Tryz.prog 116 #[.pointer (some ⟨s, 0, none⟩), .int .i64 g, .int .i64 i] w fun e w' => e = .returned (.int .u64 ((256 * g + i * sz u : Nat) : Int)) ∧ w' = w := by
  have hc := h.c2
  have hs := sz_le u
  have hp := pn_sz u
  have hpn := pn_le u
  have hlt : i * sz u < 256 := by
    have := Nat.mul_lt_mul_of_pos_right hi (show 0 < sz u by omega)
    omega
  have CA : Hid (Calls Tryz.prog 148 #[.int .i64 g, .int .i64 ((i : Int) * (sz u : Int))] w fun e w' => e = .returned (.tuple #[.int .u64 ((256 * g + i * sz u : Nat) : Int), .int .i64 0]) ∧ w' = w) := by
    have := A.Place_ok (g : Int) ((i * sz u : Nat) : Int) (by omega) (by omega) (by omega) (by omega) w
    rw [show ((i : Int) * (sz u : Int)) = ((i * sz u : Nat) : Int) by simp, show ((256 * g + i * sz u : Nat) : Int) = (g : Int) * 256 + ((i * sz u : Nat) : Int) by omega]
    exact this
  have hm : IntKind.i64.wrap ((i : Int) * (sz u : Int)) = (i : Int) * (sz u : Int) := by
    rw [show ((i : Int) * (sz u : Int)) = ((i * sz u : Nat) : Int) by simp]
    exact IntWalk.i64_in _ (by omega)
  clear h
  generalize sz u = x at *
  go_enter Tryz.func116, Tryz.ntmps116
  go_wp2_with fail
  refine CA.out.mono ?_
  rintro e w1 ⟨rfl, hw⟩
  obtain rfl := hw.symm
  go_wp2
  go_ret
  exact ⟨rfl, rfl⟩
def oc (x : Nat) : Nat := Lib.onesCount (x / 256) + Lib.onesCount (x % 256)
theorem oc8 : ∀ n : Fin 256, Lib.onesCount n.val ≤ 8 ∧ (Lib.onesCount n.val = 8 ↔ n.val = 255) := by decide +kernel
theorem oc8_le {n : Nat} (h : n < 256) : Lib.onesCount n ≤ 8 ∧ (Lib.onesCount n = 8 ↔ n = 255) := oc8 ⟨n, h⟩
theorem oc_4 : ∀ n : Fin 16, (oc n.val < 4 ↔ n.val ≠ 15) := by decide +kernel
theorem oc_8 : ∀ n : Fin 256, (oc n.val < 8 ↔ n.val ≠ 255) := by decide +kernel
theorem oc_full {u x : Nat} (hu : 4 ≤ u ∧ u ≤ 6) (hx : x < 2 ^ pn u) : oc x < pn u ↔ x ≠ 2 ^ pn u - 1 := by
  rcases use3 hu with rfl | rfl | rfl
  · exact oc_4 ⟨x, hx⟩
  · exact oc_8 ⟨x, hx⟩
  · have hx' : x < 65536 := hx
    have h1 := oc8_le (n := x / 256) (by omega)
    have h2 := oc8_le (n := x % 256) (by omega)
    show oc x < 16 ↔ x ≠ 65535
    unfold oc
    omega
theorem tab_eq : (⟨(List.append (List.append ([0, 1, 1, 2, 1, 2, 2, 3, 1, 2, 2, 3, 2, 3, 3, 4, 1, 2, 2, 3, 2, 3, 3, 4, 2, 3, 3, 4, 3, 4, 4, 5, 1, 2, 2, 3, 2, 3, 3, 4, 2, 3, 3, 4, 3, 4, 4, 5, 2, 3, 3, 4, 3, 4, 4, 5, 3, 4, 4, 5, 4, 5, 5, 6] : List UInt8) [1, 2, 2, 3, 2, 3, 3, 4, 2, 3, 3, 4, 3, 4, 4, 5, 2, 3, 3, 4, 3, 4, 4, 5, 3, 4, 4, 5, 4, 5, 5, 6, 2, 3, 3, 4, 3, 4, 4, 5, 3, 4, 4, 5, 4, 5, 5, 6, 3, 4, 4, 5, 4, 5, 5, 6, 4, 5, 5, 6, 5, 6, 6, 7]) (List.append ([1, 2, 2, 3, 2, 3, 3, 4, 2, 3, 3, 4, 3, 4, 4, 5, 2, 3, 3, 4, 3, 4, 4, 5, 3, 4, 4, 5, 4, 5, 5, 6, 2, 3, 3, 4, 3, 4, 4, 5, 3, 4, 4, 5, 4, 5, 5, 6, 3, 4, 4, 5, 4, 5, 5, 6, 4, 5, 5, 6, 5, 6, 6, 7] : List UInt8) [2, 3, 3, 4, 3, 4, 4, 5, 3, 4, 4, 5, 4, 5, 5, 6, 3, 4, 4, 5, 4, 5, 5, 6, 4, 5, 5, 6, 5, 6, 6, 7, 3, 4, 4, 5, 4, 5, 5, 6, 4, 5, 5, 6, 5, 6, 6, 7, 4, 5, 5, 6, 5, 6, 6, 7, 5, 6, 6, 7, 6, 7, 7, 8])).toArray⟩ : ByteArray) = Lib.pop8tab := by kernel_rfl
theorem oc16_any (x : Nat) (hx : x < 65536) (w : World) : Calls Tryz.prog 144 #[.int .u16 x] w fun e w' => e = .returned (.int .i64 (oc x : Nat)) ∧ ∃ q, w' = w.drewN q := by
  have ha : bits .and .u16 (x : Int) 255 = ((x % 256 : Nat) : Int) := by
    have := u16_and_nat x 255 hx (by omega)
    rw [show ((255 : Nat) : Int) = 255 from rfl, nat_mask8] at this
    exact this
  have e1 := Lib.pop8_eq ⟨x / 256, by omega⟩
  have e2 := Lib.pop8_eq ⟨x % 256, by omega⟩
  have b1 := (oc8_le (n := x / 256) (by omega)).1
  have b2 := (oc8_le (n := x % 256) (by omega)).1
  have d1 : (x : Int) / 256 = ((x / 256 : Nat) : Int) := by omega
  have l1 : x / 256 ≤ 255 := by omega
  have l2 : x % 256 ≤ 255 := by omega
  simp only [] at e1 e2
  unfold oc
  generalize Lib.onesCount (x / 256) = y1 at *
  generalize Lib.onesCount (x % 256) = y2 at *
  obtain ⟨x1, hx1⟩ : ∃ x1, x / 256 = x1 := ⟨_, rfl⟩
  obtain ⟨x2, hx2⟩ : ∃ x2, x % 256 = x2 := ⟨_, rfl⟩
  rw [hx1] at d1 e1 l1
  rw [hx2] at ha e2 l2
  clear hx1 hx2
  have hI1 : ∀ W : World, (Instr.index 9 (.string Lib.pop8tab) (.int .u16 (x1 : Int))).run Tryz.prog W = .ok (.int .u8 (y1 : Int)) W := fun W => by rw [Lib.run_index_pop8tab W 9 .u16 _ Tryz.underlying9 (by omega) (by omega), e1]
  have hI2 : ∀ W : World, (Instr.index 9 (.string Lib.pop8tab) (.int .u16 (x2 : Int))).run Tryz.prog W = .ok (.int .u8 (y2 : Int)) W := fun W => by rw [Lib.run_index_pop8tab W 9 .u16 _ Tryz.underlying9 (by omega) (by omega), e2]
  clear e1 e2
  go_enter Tryz.func144, Tryz.ntmps144
  go_wp2
  rw [tab_eq]
  go_quiet (fail)
  go_wp2
  go_ret
  exact ⟨rfl, _, rfl⟩
end Go.Proofs.YtkbpnkjjmipjfaaGreat.P
namespace Go.Proofs.YtkbpnkjjmipjfaaGreat.P
open B Go.ChangeShapes Go.WideShapes Go.ChangeAt Go.RowKit
set_option linter.unusedVariables false
set_option maxRecDepth 8192

theorem least_arg {w : World} {a : Option Addr} {n c : Nat} {f : Nat → Int} (h : Arg w a n f) (hn : n < 1000000) : Calls Tryz.prog 112 #[.slice a n c] w fun e w' => ∃ m : Int, e = .returned (.tuple #[.int .i64 m, .bool (decide (0 < n))]) ∧ (0 < n → (∃ i, i < n ∧ m = f i) ∧ ∀ i, i < n → m ≤ f i) ∧ w' = w := by
  have HA : Hid (Arg w a n f) := h
  clear h
  go_enter Tryz.func112, Tryz.ntmps112
  go_wp2
  go_loopw [9, 4] (fun z y wr => ∃ (k : Nat) (m : Int), z = .int .i64 k ∧ y = .int .i64 m ∧ k ≤ n ∧ wr = w ∧ (0 < k → (∃ i, i < k ∧ m = f i) ∧ ∀ i, i < k → m ≤ f i)) (fun z _ _ => n - (B.iv z).toNat)
  case atStart => exact ⟨0, 0, rfl, rfl, by omega, rfl, fun z => by omega⟩
  case round =>
    obtain ⟨k, m, rfl, rfl, h1, h2, h3⟩ := hrel
    have H2 : Hid (wr = w) := h2
    have H3 : Hid (0 < k → (∃ i, i < k ∧ m = f i) ∧ ∀ i, i < k → m ≤ f i) := h3
    by_cases hk : k < n
    · have hkI : (k : Int) < (n : Int) := by omega
      obtain ⟨bb, off, rfl, hc⟩ := HA.out.at' (Below.refl _ _) hk
      rw [← h2] at hc
      clear h2 h3
      generalize hfk : f k = x at *
      have HF : Hid (f k = x) := hfk
      clear hfk
      by_cases hb : k = 0 ∨ x < m
      · have E : Hid ((∃ i, i < k + 1 ∧ x = f i) ∧ ∀ i, i < k + 1 → x ≤ f i) := ⟨⟨k, by omega, HF.out.symm⟩, fun i hi => by
          by_cases e : i = k
          · rw [e, HF.out]; exact Int.le_refl _
          · rcases hb with q | q
            · omega
            · have := (H3.out (by omega)).2 i (by omega)
              omega⟩
        rcases hb with rfl | hlt
        · rw [Nat.add_zero] at hc
          go_wp2
          go_roundw
          case rel => exact ⟨1, x, by go_num, rfl, by omega, H2.out, fun _ => E.out⟩
          case measure => simp [B.iv]; omega
        · by_cases hk0 : k = 0
          · subst hk0
            rw [Nat.add_zero] at hc
            go_wp2
            go_roundw
            case rel => exact ⟨1, x, by go_num, rfl, by omega, H2.out, fun _ => E.out⟩
            case measure => simp [B.iv]; omega
          · have hkB : ((k : Int) == 0) = false := by simp; omega
            have hkZ : ¬ (k : Int) = 0 := by omega
            go_wp2
            go_roundw
            case rel => exact ⟨k + 1, x, by go_num, rfl, by omega, H2.out, fun _ => E.out⟩
            case measure => simp [B.iv]; omega
      · have hkB : ((k : Int) == 0) = false := by simp; omega
        have hkZ : ¬ (k : Int) = 0 := by omega
        have hlt : ¬ x < m := fun q => hb (Or.inr q)
        have E : Hid ((∃ i, i < k + 1 ∧ m = f i) ∧ ∀ i, i < k + 1 → m ≤ f i) := by
          obtain ⟨⟨i0, e1, e2⟩, e3⟩ := H3.out (by omega)
          refine ⟨⟨i0, by omega, e2⟩, fun i hi => ?_⟩
          by_cases e : i = k
          · rw [e, HF.out]; omega
          · exact e3 i (by omega)
        clear hb
        go_wp2
        go_roundw
        case rel => exact ⟨k + 1, m, by go_num, rfl, by omega, H2.out, fun _ => E.out⟩
        case measure => simp [B.iv]; omega
    · obtain rfl : k = n := by omega
      clear h2 h3
      go_wp2
      go_ret2
      exact ⟨m, by simp, H3.out, H2.out⟩
theorem least_is {w : World} {base : Nat} {v : Value} {l : List Int} (h : Is w base v l) (hn : l.length < 1000000) : Calls Tryz.prog 112 #[v] w fun e w' => ∃ m : Int, e = .returned (.tuple #[.int .i64 m, .bool (decide (0 < l.length))]) ∧ (0 < l.length → m ∈ l ∧ ∀ x ∈ l, m ≤ x) ∧ w' = w := by
  obtain ⟨a, c, rfl, hA⟩ := h.arg
  refine (least_arg hA hn).mono ?_
  rintro e w' ⟨m, rfl, h1, h2⟩
  refine ⟨m, rfl, fun hl => ?_, h2⟩
  obtain ⟨⟨i, hi, e⟩, h4⟩ := h1 hl
  refine ⟨?_, fun x hx => ?_⟩
  · rw [e, List.getD_eq_getElem?_getD, List.getElem?_eq_getElem hi]
    exact List.getElem_mem _
  · obtain ⟨j, hj, rfl⟩ := List.getElem_of_mem hx
    have := h4 j hj
    rw [List.getD_eq_getElem?_getD, List.getElem?_eq_getElem hj] at this
    exact this
theorem map_size {w : World} {b : Nat} {D : DataW Value} {m : Nat → Option Nat} (ho : w.ownsMap Tryz.prog 3 Rv b 4096 D) (v : Vw D 4096 m) : Maps.size D ≤ 4096 := by
  have h1 := keys_size ho
  have h2 := (keys_mw ho v).length_eq
  have h3 := us_len 4096 m
  omega
theorem entry_is {D : DataW Value} {mk : Ms} {N : Nat} (hv : Vw D N (om mk)) {x : Int} {kl : Lit} {c : Value} {y : DataW Value × List MemPlace} (hkey : keyOf Tryz.prog 3 (.int .i64 x) = some kl) (hR : Rv c = some y) (hat : ∀ zd, D.atKey kl zd = y.1) : kl = .int .i64 x ∧ ∃ g h : Nat, x = g ∧ mk g = h ∧ h ≠ 0 ∧ c = .int .u16 h := by
  obtain ⟨x', e1, e2, _⟩ := Maps.keyOf_int_inv Tryz.underlying3 hkey
  cases e1
  subst e2
  refine ⟨rfl, ?_⟩
  cases hR
  have hh : Maps.has D (.int .i64 x) = true := by
    cases q : Maps.has D (.int .i64 x) with
    | true => rfl
    | false =>
      have h1 := hat (.held (.bool true))
      have h2 := hat (.held (.bool false))
      rw [Maps.atKey_of_not_has q] at h1 h2
      rw [← h1] at h2
      simp at h2
  obtain ⟨j, h, rfl, e⟩ := (hv.has x).1 hh
  have := hat (.held (.bool true))
  rw [hv.at' j h e] at this
  simp [wv] at this
  obtain ⟨e3, e4⟩ := om_some.1 e
  exact ⟨j, h, rfl, e3, e4, this.symm⟩
end Go.Proofs.YtkbpnkjjmipjfaaGreat.P
namespace Go.Proofs.YtkbpnkjjmipjfaaGreat.P
open B Go.ChangeShapes Go.WideShapes Go.ChangeAt Go.RowKit
set_option linter.unusedVariables false
set_option maxRecDepth 8192

def rmy (u : Nat) (mk : Ms) (g : Nat) : Prop := mk g ≠ 0 ∧ mk g ≠ 2 ^ pn u - 1
set_option maxHeartbeats 1000000 in
theorem roomy_s {w : World} {s b p u : Nat} {mk : Ms} (h : Sl w s b p u mk) : Calls Tryz.prog 113 #[.pointer (some ⟨s, 0, none⟩)] w fun e w' => ∃ (v : Value) (l : List Int), e = .returned v ∧ Is w' w.heap.size v l ∧ l.length ≤ 4096 ∧ (∀ x : Int, x ∈ l ↔ ∃ g : Nat, x = g ∧ rmy u mk g) ∧ Below w.heap.size w w' := by
  obtain ⟨D, ho, hv⟩ := h.mp
  have hbl := h.mp.lt
  have hsz := map_size ho hv
  have HV : Hid (Vw D 4096 (om mk)) := hv
  have hc3 := h.c3
  have CP : Hid (∀ W, Below w.heap.size w W → Calls Tryz.prog 120 #[.pointer (some ⟨s, 0, none⟩)] W fun e w' => e = .returned (.int .i64 (pn u : Nat)) ∧ w' = W) := fun W hW => places_s (h.below hW)
  have HU : Hid (∀ g, mk g < 65536 ∧ (oc (mk g) < pn u ↔ mk g ≠ 2 ^ pn u - 1)) := fun g => ⟨Nat.lt_of_lt_of_le (h.ml g) (two_pn u), oc_full h.u4 (h.ml g)⟩
  have hp16 := pn_le u
  obtain ⟨i0, hi0, hz0, hz1, hz2⟩ := info_parts B.Tryz.infoI
  clear h hv
  go_enter Tryz.func113, Tryz.ntmps113
  go_wp2_with (first | (at_range; refine wpList_range_own _ rfl _ 122 rfl 3 217 keyed Tryz.underlying122 _ b 4096 D rfl ho ?_; intro w0 hrg0 hg0 hs0) | go_in)
  go_frame
  go_loopw [3, 4] (fun v _ wr => ∃ (left : Lit → Bool) (cnt : Nat) (l : List Int) (vv : Value), vv = v ∧ wr.ranges Tryz.prog 3 Rv b w.heap.size 4096 D left cnt ∧ Is wr (w.heap.size + 1) v l ∧ (∀ x : Int, x ∈ l ↔ left (.int .i64 x) = false ∧ ∃ g : Nat, x = g ∧ rmy u mk g) ∧ l.length + cnt ≤ 4096 ∧ Below w.heap.size w wr) (fun _ _ wr => wr.rangeLeft b w.heap.size)
  case atStart =>
    refine ⟨_, _, [], _, rfl, hrg0, Is.nil _ _, fun x => ?_, by simpa using hsz, below_of hg0 _ (Nat.le_refl _) (by simp)⟩
    constructor
    · intro z; cases z
    · rintro ⟨z1, g, rfl, z2, z3⟩
      have := (HV.out.has g).2 ⟨g, mk g, rfl, om_some.2 ⟨rfl, z2⟩⟩
      rw [this] at z1
      cases z1
  case round =>
    obtain ⟨left, cnt, l, v, hvv, hrg, hI, hm, hlc, hB⟩ := hrel
    subst hvv
    have HI : Hid (Is wr (w.heap.size + 1) v l) := hI
    have HM : Hid (∀ x : Int, x ∈ l ↔ left (.int .i64 x) = false ∧ ∃ g : Nat, x = g ∧ rmy u mk g) := hm
    have HB : Hid (Below w.heap.size w wr) := hB
    have HRG : Hid (wr.ranges Tryz.prog 3 Rv b w.heap.size 4096 D left cnt) := hrg
    clear hI hm hB hrg hrg0 hg0
    go_wp2_with (first | (at_next; refine wpList_next_ranges _ rfl _ rfl 3 keyed Rv (Value.int .i64) (fun v : Value => v) (fun key kl hk => by obtain ⟨x, e, _⟩ := Maps.keyOf_int_inv Tryz.underlying3 hk; exact ⟨x, e⟩) (fun v y _ => ⟨v, rfl⟩) b w.heap.size 4096 _ _ _ rfl HRG.out ?_ ?_) | go_in)
    · intro _ hl0
      go_wp2
      go_ret
      exact ⟨v, l, rfl, HI.out.less (by omega), by omega, fun x => by rw [HM.out x, hl0]; simp, HB.out⟩
    · intro x c kl y1 y2 w1 cnt1 hkey hlk hR hat hrg1 hlt hg1 hs1 hen
      obtain ⟨rfl, g, hh, rfl, hgm, hh0, rfl⟩ := entry_is (y := (y1, y2)) HV.out hkey hR hat
      have HRG1 : Hid (w1.ranges Tryz.prog 3 Rv b w.heap.size 4096 D (fun z => left z && !z.sameKey (.int .i64 (g : Int))) cnt1) := hrg1
      have HI1 : Hid (Is w1 (w.heap.size + 1) v l) := HI.out.of_eq (fun k hk => hg1.block k (HI.out.lt k hk).2 (by have := (HI.out.lt k hk).1; intro z; injection z with z; omega))
      have HB1 : Hid (Below w.heap.size w w1) := HB.out.trans (below_of hg1 _ HB.out.size (by intro k z; injection z with z; omega))
      have hgu := HU.out g
      rw [hgm] at hgu
      have HGM : Hid (mk g = hh) := hgm
      have CO := oc16_any hh hgu.1 w1
      have HGU : Hid (oc hh < pn u ↔ hh ≠ 2 ^ pn u - 1) := hgu.2
      have HL : Hid (∀ x : Int, (left (.int .i64 x) && !(Lit.int .i64 x).sameKey (.int .i64 (g : Int))) = false ↔ left (.int .i64 x) = false ∨ x = g) := fun x => by
        by_cases e : x = g
        · subst e
          simp [Lit.sameKey]
        · cases left (.int .i64 x) <;> simp [Lit.sameKey, e]
      have HLK : Hid (left (.int .i64 (g : Int)) = true) := hlk
      clear hkey hlk hR hat hrg1 hg1 hgm HI HB hgu
      go_wp2_with fail
      refine CO.mono ?_
      rintro e w2 ⟨rfl, q, hw2⟩
      have HB2 : Hid (Below w.heap.size w w2) := by rw [hw2]; exact HB1.out.trans (below_of (grown_drewN w1 q none) _ HB1.out.size (by simp))
      have HI2 : Hid (Is w2 (w.heap.size + 1) v l) := by rw [hw2]; exact HI1.out
      have HRG2 : Hid (w2.ranges Tryz.prog 3 Rv b w.heap.size 4096 D (fun z => left z && !z.sameKey (.int .i64 (g : Int))) cnt1) := by rw [hw2]; exact HRG1.out.kept (grown_drewN w1 q none) (by simp) (by simp)
      clear hw2 CO hen HB1 HI1 HRG1
      go_wp2_with fail
      refine (CP.out w2 HB2.out).mono ?_
      rintro e w3 ⟨rfl, hw3⟩
      obtain rfl := hw3.symm
      clear hw3
      generalize oc hh = ov at *
      by_cases hf : ov < pn u
      · have hfI : (ov : Int) < (pn u : Int) := by omega
        have hsz2 := HB2.out.size
        have hw2s : w.heap.size + 1 ≤ w2.heap.size := HRG2.out.lt
        go_wp2_with (at_builtin; refine wpList_append_own _ rfl (.tmp 21) (.tmp 23) 25 rfl (w.heap.size + 1) 3 i0 _ 1 8 Tryz.underlying25 hi0 hz0 hz1 hz2 rfl (by decide) _ l.length _ rfl (HI2.out.alloc _) ⟨w2.heap.size, 0, none⟩ 1 1 [.int .i64 (g : Nat)] rfl rfl (cell_one_new _ _ _) (by intro u hu; simp at hu; subst hu; rfl) (by unfold maxLen; omega) (by omega) (by simp; omega) ?_; intro v4 w4 o4 gr4 nil4)
        go_roundw
        case rel =>
          have hg : w2.grownBy w4 v.ownBlock := (World.grownBy_alloc _ _ _).trans gr4
          have hown : ∀ k, v.ownBlock = some k → w.heap.size + 1 ≤ k := fun k hk => (HI2.out.lt k hk).1
          refine ⟨_, cnt1, l ++ [(g : Int)], _, rfl, HRG2.out.kept hg (fun z => ?_) (fun z => ?_), is_snoc o4, fun x => ?_, by rw [List.length_append]; simp; omega, HB2.out.trans (below_of hg _ HB2.out.size (fun k hk => by have := hown k hk; omega))⟩
          · have := hown b z.symm; omega
          · have := hown _ z.symm; omega
          · rw [HL.out x, List.mem_append, HM.out x]
            constructor
            · rintro (⟨z1, z2⟩ | z)
              · exact ⟨Or.inl z1, z2⟩
              · simp at z
                exact ⟨Or.inr z, g, z, by rw [HGM.out]; exact hh0, by rw [HGM.out]; exact HGU.out.1 hf⟩
            · rintro ⟨z | z, z2⟩
              · exact Or.inl ⟨z, z2⟩
              · exact Or.inr (by simp [z])
        case measure => rw [(HRG2.out.kept ((World.grownBy_alloc _ _ _).trans gr4) (fun z => by have := (HI2.out.lt b z.symm).1; omega) (fun z => by have := (HI2.out.lt _ z.symm).1; omega)).left_eq, HRG.out.left_eq]; exact hlt
      · have hfI : ¬ (ov : Int) < (pn u : Int) := by omega
        have hfD : decide ((ov : Int) < (pn u : Int)) = false := by simp only [decide_eq_false_iff_not]; omega
        have hfE : decide (ov < pn u) = false := by simp only [decide_eq_false_iff_not]; omega
        go_wp2
        go_roundw
        case rel =>
          refine ⟨_, cnt1, l, _, rfl, HRG2.out, HI2.out, fun x => ?_, by omega, HB2.out⟩
          rw [HL.out x, HM.out x]
          constructor
          · rintro ⟨z1, z2⟩
            exact ⟨Or.inl z1, z2⟩
          · rintro ⟨z | z, z2⟩
            · exact ⟨z, z2⟩
            · obtain ⟨g', z3, z4, z5⟩ := z2
              have : g' = g := by omega
              subst this
              rw [HGM.out] at z5
              exact absurd (HGU.out.2 z5) hf
        case measure => rw [HRG2.out.left_eq, HRG.out.left_eq]; exact hlt
end Go.Proofs.YtkbpnkjjmipjfaaGreat.P
namespace Go.Proofs.YtkbpnkjjmipjfaaGreat.P
open B Go.ChangeShapes Go.WideShapes Go.ChangeAt Go.RowKit
set_option linter.unusedVariables false
set_option maxRecDepth 8192

theorem Sl.look {w : World} {s b p u : Nat} {mk : Ms} (h : Sl w s b p u mk) (g : Nat) (hg : g ≤ 4096) : (Instr.lookup 122 (.map (some b)) (.int .i64 g) false).run Tryz.prog w = .ok (.int .u16 (mk g : Nat)) w := by
  obtain ⟨D, ho, v⟩ := h.mp
  obtain ⟨x, ps, hr, hx⟩ := ho.lookup keyed Tryz.underlying122 (z := .int .u16 0) ((zero_of_info Tryz.zeroW).1 w) (zd := .held (.int .u16 0)) (zp := []) rfl (key_at g hg)
  by_cases e : mk g = 0
  · have hf : Maps.has D (.int .i64 (g : Int)) = false := by
      rw [Bool.eq_false_iff]
      intro ht
      obtain ⟨i, u, e1, e2⟩ := (v.has g).1 ht
      obtain rfl : g = i := by omega
      obtain ⟨e3, e4⟩ := om_some.1 e2
      exact e4 (e3.symm.trans e)
    rw [Maps.atKey_of_not_has hf] at hx
    simp [Rv] at hx
    rw [hr, hx.1, e]
    rfl
  · rw [v.at' g (mk g) (om_some.2 ⟨rfl, e⟩)] at hx
    simp [Rv, wv] at hx
    rw [hr, hx.1]
theorem shl_u16 {i : Nat} (h : i < 16) : IntKind.u16.wrap ((2 : Int) ^ i) = ((2 ^ i : Nat) : Int) := by
  have : ∀ i : Fin 16, IntKind.u16.wrap ((2 : Int) ^ i.val) = ((2 ^ i.val : Nat) : Int) := by decide
  exact this ⟨i, h⟩
theorem and_bit {x i : Nat} (hx : x < 65536) (hi : i < 16) : bits .and .u16 (x : Int) ((2 ^ i : Nat) : Int) = ((if x.testBit i then 2 ^ i else 0 : Nat) : Int) := by
  have hp : 2 ^ i < 65536 := Nat.lt_of_lt_of_le (Nat.pow_lt_pow_right (by omega) hi) (by decide)
  rw [u16_and_nat x (2 ^ i) hx hp]
  congr 1
  apply Nat.eq_of_testBit_eq
  intro j
  rw [Nat.testBit_and, Nat.testBit_two_pow]
  by_cases e : i = j
  · subst e
    cases x.testBit i <;> simp
  · cases x.testBit i <;> simp [e]
set_option maxHeartbeats 1000000 in
theorem free_s {w : World} {s b p u : Nat} {mk : Ms} (h : Sl w s b p u mk) (g : Nat) (hg : g < 4096) : Calls Tryz.prog 115 #[.pointer (some ⟨s, 0, none⟩), .int .i64 g] w fun e w' => ∃ (v : Value) (l : List Int), e = .returned v ∧ Is w' w.heap.size v l ∧ l.length ≤ 16 ∧ (∀ x : Int, x ∈ l ↔ ∃ i : Nat, x = i ∧ i < pn u ∧ (mk g).testBit i = false) ∧ Below w.heap.size w w' := by
  have HS : Hid (Sl w s b p u mk) := h
  have CP : Hid (Calls _ _ _ _ _) := places_s h
  have hx : mk g < 65536 := Nat.lt_of_lt_of_le (h.ml g) (two_pn u)
  have hp16 := (pn_le u).2
  obtain ⟨i0, hi0, hz0, hz1, hz2⟩ := info_parts B.Tryz.infoI
  obtain ⟨x, hxe⟩ : ∃ x, mk g = x := ⟨_, rfl⟩
  rw [hxe] at hx
  have HX : Hid (mk g = x) := hxe
  rw [hxe]
  clear h hxe
  generalize pn u = n at *
  go_enter Tryz.func115, Tryz.ntmps115
  go_wp2_with fail
  refine CP.out.mono ?_
  rintro e w1 ⟨rfl, hw⟩
  obtain rfl := hw.symm
  clear hw CP
  go_wp2
  go_loopw [9, 5] (fun z v wr => ∃ (k : Nat) (l : List Int) (vv : Value), z = .int .i64 k ∧ vv = v ∧ k ≤ n ∧ Is wr w.heap.size v l ∧ l.length ≤ k ∧ (∀ y : Int, y ∈ l ↔ ∃ i : Nat, y = i ∧ i < k ∧ x.testBit i = false) ∧ Below w.heap.size w wr) (fun z _ _ => n - (B.iv z).toNat)
  case atStart => exact ⟨0, [], _, rfl, rfl, by omega, Is.nil _ _, by simp, fun y => by simp, Below.refl _ _⟩
  case round =>
    obtain ⟨k, l, v, rfl, hvv, h1, hI, h2, h3, hB⟩ := hrel
    subst hvv
    have HI : Hid (Is wr w.heap.size v l) := hI
    have H3 : Hid (∀ y : Int, y ∈ l ↔ ∃ i : Nat, y = i ∧ i < k ∧ x.testBit i = false) := h3
    have HB : Hid (Below w.heap.size w wr) := hB
    clear hI h3 hB
    by_cases hk : k < n
    · have hkI : (k : Int) < (n : Int) := by omega
      have hs := HS.out.below HB.out
      have hc3 := hs.c3
      have hlk : ∀ q, (Instr.lookup 122 (.map (some b)) (.int .i64 g) false).run Tryz.prog (wr.drewN q) = .ok (.int .u16 (x : Nat)) (wr.drewN q) := fun q => by
        have := (hs.below (below_of (grown_drewN wr q none) _ (Nat.le_refl _) (by simp))).look g (by omega)
        rw [HX.out] at this
        exact this
      have hsh := shl_u16 (i := k) (by omega)
      have hab := and_bit (x := x) (i := k) hx (by omega)
      have hpos : 0 < 2 ^ k := Nat.two_pow_pos k
      clear hs
      obtain ⟨pw, hpw⟩ : ∃ pw : Nat, 2 ^ k = pw := ⟨_, rfl⟩
      rw [hpw] at hsh hab hpos
      clear hpw
      cases hb : x.testBit k
      · rw [hb] at hab
        simp only [Bool.false_eq_true, if_false] at hab
        have HBk : Hid (x.testBit k = false) := hb
        clear hb
        go_wp2
        go_quiet (fail)
        have HI2 : Hid (Is (wr.drewN nq) w.heap.size v l) := HI.out
        have HB2 : Hid (Below w.heap.size w (wr.drewN nq)) := HB.out.trans (below_of (grown_drewN wr nq none) _ HB.out.size (by simp))
        clear hlk hc3
        generalize wr.drewN nq = w2 at *
        have hsz2 := HB2.out.size
        go_wp2_with (at_builtin; refine wpList_append_own _ rfl (.tmp 22) (.tmp 24) 25 rfl w.heap.size 3 i0 _ 1 8 Tryz.underlying25 hi0 hz0 hz1 hz2 rfl (by decide) _ l.length _ rfl (HI2.out.alloc _) ⟨w2.heap.size, 0, none⟩ 1 1 [.int .i64 (k : Nat)] rfl rfl (cell_one_new _ _ _) (by intro u hu; simp at hu; subst hu; rfl) (by unfold maxLen; omega) (by omega) (by simp; omega) ?_; intro v4 w4 o4 gr4 nil4)
        go_roundw
        case rel =>
          have hg : w2.grownBy w4 v.ownBlock := (World.grownBy_alloc _ _ _).trans gr4
          refine ⟨k + 1, l ++ [(k : Int)], _, by go_num, rfl, by omega, is_snoc o4, by rw [List.length_append]; simp; omega, fun y => ?_, HB2.out.trans (below_of hg _ HB2.out.size (fun j hj => (HI2.out.lt j hj).1))⟩
          rw [List.mem_append, H3.out y]
          constructor
          · rintro (⟨i, e1, e2, e3⟩ | z)
            · exact ⟨i, e1, by omega, e3⟩
            · simp at z
              exact ⟨k, z, by omega, HBk.out⟩
          · rintro ⟨i, e1, e2, e3⟩
            by_cases e : i = k
            · exact Or.inr (by simp [e1, e])
            · exact Or.inl ⟨i, e1, by omega, e3⟩
        case measure => simp [B.iv]; omega
      · rw [hb] at hab
        simp only [if_true] at hab
        have HBk : Hid (x.testBit k = true) := hb
        clear hb
        have hz : ((pw : Int) == 0) = false := by simp; omega
        have hz2 : ¬ (pw : Int) = 0 := by omega
        go_wp2
        go_quiet (fail)
        go_wp2
        go_roundw
        case rel =>
          refine ⟨k + 1, l, _, by go_num, rfl, by omega, HI.out, by omega, fun y => ?_, HB.out.trans (below_of (grown_drewN wr _ none) _ HB.out.size (by simp))⟩
          rw [H3.out y]
          constructor
          · rintro ⟨i, e1, e2, e3⟩
            exact ⟨i, e1, by omega, e3⟩
          · rintro ⟨i, e1, e2, e3⟩
            by_cases e : i = k
            · subst e
              rw [HBk.out] at e3
              cases e3
            · exact ⟨i, e1, by omega, e3⟩
        case measure => simp [B.iv]; omega
    · obtain rfl : k = n := by omega
      go_wp2
      go_ret
      exact ⟨v, l, rfl, HI.out, by omega, H3.out, HB.out⟩
end Go.Proofs.YtkbpnkjjmipjfaaGreat.P
