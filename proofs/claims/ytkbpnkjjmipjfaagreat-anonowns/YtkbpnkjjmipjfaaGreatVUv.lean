/- The library's contract of slices.Sort laid at this program: a table of numbers and a theorem, each field a fact of the program's own; no condition. -/
import Derived.Test.YtkbpnkjjmipjfaaGreatRows
import Derived.Test.YtkbpnkjjmipjfaaGreatVUw
import Derived.WalkKit
import Derived.Shelf.SortM.Plain
import Derived.Shelf.SortM.SortNone
import Derived.Sort.EveryDepth
import Derived.Deep.WholeRow
import Derived.Laws.Bits64b
namespace Go.Proofs.YtkbpnkjjmipjfaaGreat.P
open Go.Shelf
def sortA_ren : Go.Shelf.Ren := ⟨fun | 5 => 79 | 8 => 118 | 7 => 117 | 19 => 158 | 20 => 159 | 10 => 149 | 11 => 150 | 12 => 151 | 13 => 152 | 14 => 153 | 15 => 154 | 16 => 155 | 17 => 156 | 18 => 157 | 30 => 192 | 31 => 193 | 32 => 194 | 33 => 195 | 34 => 196 | 35 => 197 | 40 => 227 | n => n, fun | 23 => 25 | 25 => 3 | 3 => 3 | 32 => 221 | 22 => 25 | 0 => 0 | 44 => 252 | 46 => 22 | 4 => 4 | 36 => 246 | 35 => 245 | 41 => 156 | 5 => 5 | 9 => 9 | 53 => 272 | 57 => 276 | 63 => 298 | 64 => 237 | n => n, fun | n => n⟩
theorem sortA : Go.Proofs.SlLaysM.n5 Tryz.prog sortA_ren := {
  mixed := by kernel_rfl
  f5 := ⟨Tryz.f79.name, by decide, Tryz.func79.trans (congrArg some (by kernel_rfl))⟩
  f7 := ⟨Tryz.f117.name, by decide, Tryz.func117.trans (congrArg some (by kernel_rfl))⟩
  f8 := Tryz.func118.trans (congrArg some (by kernel_rfl))
  f10 := ⟨Tryz.f149.name, by decide, Tryz.func149.trans (congrArg some (by kernel_rfl))⟩
  f11 := ⟨Tryz.f150.name, by decide, Tryz.func150.trans (congrArg some (by kernel_rfl))⟩
  f12 := ⟨Tryz.f151.name, by decide, Tryz.func151.trans (congrArg some (by kernel_rfl))⟩
  f13 := ⟨Tryz.f152.name, by decide, Tryz.func152.trans (congrArg some (by kernel_rfl))⟩
  f14 := ⟨Tryz.f153.name, by decide, Tryz.func153.trans (congrArg some (by kernel_rfl))⟩
  f15 := ⟨Tryz.f154.name, by decide, Tryz.func154.trans (congrArg some (by kernel_rfl))⟩
  f16 := ⟨Tryz.f155.name, by decide, Tryz.func155.trans (congrArg some (by kernel_rfl))⟩
  f17 := ⟨Tryz.f156.name, by decide, Tryz.func156.trans (congrArg some (by kernel_rfl))⟩
  f18 := ⟨Tryz.f157.name, by decide, Tryz.func157.trans (congrArg some (by kernel_rfl))⟩
  f19 := Tryz.func158.trans (congrArg some (by kernel_rfl))
  f20 := Tryz.func159.trans (congrArg some (by kernel_rfl))
  f30 := ⟨Tryz.f192.name, by decide, Tryz.func192.trans (congrArg some (by kernel_rfl))⟩
  f31 := Tryz.func193.trans (congrArg some (by kernel_rfl))
  f32 := Tryz.func194.trans (congrArg some (by kernel_rfl))
  f33 := ⟨Tryz.f195.name, by decide, Tryz.func195.trans (congrArg some (by kernel_rfl))⟩
  f34 := ⟨Tryz.f196.name, by decide, Tryz.func196.trans (congrArg some (by kernel_rfl))⟩
  f35 := ⟨Tryz.f197.name, by decide, Tryz.func197.trans (congrArg some (by kernel_rfl))⟩
  f40 := ⟨Tryz.f227.name, by decide, Tryz.func227.trans (congrArg some (by kernel_rfl))⟩
  t0 := Tryz.underlying0
  a0 := Tryz.isAgg0
  z0 := Tryz.sizeOf0
  v0 := Tryz.zeroValue0
  t3 := Tryz.underlying3
  a3 := Tryz.isAgg3
  z3 := Tryz.sizeOf3
  v3 := Tryz.zeroValue3
  t4 := Tryz.underlying4
  a4 := Tryz.isAgg4
  z4 := Tryz.sizeOf4
  v4 := Tryz.zeroValue4
  t5 := Tryz.underlying5
  a5 := Tryz.isAgg5
  z5 := Tryz.sizeOf5
  v5 := Tryz.zeroValue5
  t9 := Tryz.underlying9
  a9 := Tryz.isAgg9
  z9 := Tryz.sizeOf9
  v9 := Tryz.zeroValue9
  t22 := Tryz.underlying25
  a22 := Tryz.isAgg25
  z22 := Tryz.sizeOf25
  v22 := Tryz.zeroValue25
  t23 := Tryz.underlying25
  a23 := Tryz.isAgg25
  z23 := Tryz.sizeOf25
  v23 := Tryz.zeroValue25
  t25 := Tryz.underlying3
  a25 := Tryz.isAgg3
  z25 := Tryz.sizeOf3
  v25 := Tryz.zeroValue3
  t32 := Tryz.underlying221
  a32 := Tryz.isAgg221
  z32 := Tryz.sizeOf221
  v32 := Tryz.zeroValue221
  t35 := Tryz.underlying245
  a35 := Tryz.isAgg245
  z35 := Tryz.sizeOf245
  v35 := Tryz.zeroValue245
  t36 := Tryz.underlying246
  a36 := Tryz.isAgg246
  z36 := Tryz.sizeOf246
  v36 := Tryz.zeroValue246
  t41 := Tryz.underlying156
  a41 := Tryz.isAgg156
  z41 := Tryz.sizeOf156
  v41 := Tryz.zeroValue156
  t44 := Tryz.underlying252
  a44 := Tryz.isAgg252
  z44 := Tryz.sizeOf252
  v44 := Tryz.zeroValue252
  t46 := Tryz.underlying22
  a46 := Tryz.isAgg22
  z46 := Tryz.sizeOf22
  v46 := Tryz.zeroValue22
  t53 := Tryz.underlying272
  a53 := Tryz.isAgg272
  z53 := Tryz.sizeOf272
  v53 := Tryz.zeroValue272
  t57 := Tryz.underlying276
  a57 := Tryz.isAgg276
  z57 := Tryz.sizeOf276
  v57 := Tryz.zeroValue276
  t63 := Tryz.underlying298
  a63 := Tryz.isAgg298
  z63 := Tryz.sizeOf298
  v63 := Tryz.zeroValue298
  t64 := Tryz.underlying237
  a64 := Tryz.isAgg237
  z64 := Tryz.sizeOf237
  v64 := Tryz.zeroValue237 }
end Go.Proofs.YtkbpnkjjmipjfaaGreat.P
namespace Go.Proofs.YtkbpnkjjmipjfaaGreat.U
open Go.ChangeShapes Go.WideShapes Go.ChangeAt Go.RowKit
open Go.Sort (swp ltInt PermIn SortedIn)
set_option linter.unusedVariables false
set_option maxRecDepth 8192

structure Ct (w : World) (b : Nat) (v : Value) : Prop where
  c : w.cell? ⟨b, 0, none⟩ = some v
  f : w.frozen? ⟨b, 0, none⟩ = false
theorem Ou.other {w w' : World} {g off m b : Nat} {d : Array Int} (h : Ou w w' g off m d) (hb : w.heap.size ≤ b) (v : Value) : Ou w (w'.setCell ⟨b, 0, none⟩ v) g off m d := by
  obtain ⟨c, h1, h2, h3, h4⟩ := h.ce
  have hne : b ≠ g := fun e => by have := h.lt; omega
  refine ⟨h.lt, ⟨h.gr.os, h.gr.tape, h.gr.output, by simp [World.setCell]; exact h.gr.size, fun k hk hn => ?_⟩, c, ?_, h2, h3, h4⟩
  · have : b ≠ k := by omega
    simp [World.setCell, Array.getElem?_modify, this]
    have := h.gr.block k hk hn
    simpa using this
  · simp [World.setCell, Array.getElem?_modify, hne, h1]
theorem Ct.set {w : World} {b : Nat} {v v' : Value} (h : Ct w b v) : Ct (w.setCell ⟨b, 0, none⟩ v') b v' := ⟨World.cell?_setCell_same _ _ _ h.c, by rw [World.frozen?_setCell]; exact h.f⟩
theorem Ct.drewN {w : World} {b : Nat} {v : Value} (h : Ct w b v) (q : Nat) : Ct (w.drewN q) b v := ⟨h.c, h.f⟩
theorem ct_new (w : World) (v : Value) (ty : TypeId) : Ct (w.alloc (.cells #[v] ty)) w.heap.size v := by
  have hb : (w.alloc (.cells #[v] ty)).heap[w.heap.size]? = some (.cells #[v] ty (0, 0)) := heap_alloc_last w _
  refine ⟨by rw [cell_of_row _ _ 0 _ ty (0, 0) hb]; rfl, ?_⟩
  generalize w.alloc (.cells #[v] ty) = W at hb
  simp [World.frozen?, hb]
theorem order2_any {w0 w : World} {g off m cap a b sw k : Nat} {d : Array Int} (hO : Ou w0 w g off m d) (ha : a < d.size) (hb : b < d.size) (hsz : d.size < 1000000) (hs : w0.heap.size ≤ sw) (hC : Ct w sw (.int .i64 k)) (hk : k < 1000) :
    Calls Tryz.prog 246 #[.slice (some ⟨g, off, none⟩) d.size cap, .int .i64 a, .int .i64 b, .pointer (some ⟨sw, 0, none⟩)] w fun e w' => ∃ p q k' : Nat, e = .returned (.tuple #[.int .i64 p, .int .i64 q]) ∧ (p = a ∧ q = b ∨ p = b ∧ q = a) ∧ k' ≤ k + 1 ∧ Ou w0 w' g off m d ∧ Ct w' sw (.int .i64 k') := by
  obtain ⟨n, hn⟩ : ∃ n, d.size = n := ⟨_, rfl⟩
  rw [hn] at ha hb hsz ⊢
  have HO : Hid (Ou w0 w g off m d) := hO
  have HC : Hid (Ct w sw (.int .i64 k)) := hC
  obtain ⟨G, hG⟩ : ∃ G : Nat → Int, ∀ t, G t = d[t]! := ⟨fun t => d[t]!, fun _ => rfl⟩
  have hc : ∀ t, t < n → w.cell? ⟨g, off + t, none⟩ = some (.int .u64 (G t)) := fun t ht => by rw [hG]; exact hO.cell (by omega)
  have hcc : ∀ q, (w.drewN q).cell? ⟨sw, 0, none⟩ = some (.int .i64 k) := fun q => hC.c
  have hcf : ∀ q, (w.drewN q).frozen? ⟨sw, 0, none⟩ = false := fun q => hC.f
  clear hO hn hG hC
  go_enter Tryz.func246, Tryz.ntmps246
  go_wp2
  go_quiet ((go_at_call 204; refine Calls.quiet_of_same (less_any _ _ _)))
  have hx1 := hcc nq
  have hx2 := hcf nq
  cases hl : ltInt (G b) (G a)
  · go_wp2
    go_ret2
    exact ⟨a, b, k, rfl, Or.inl ⟨rfl, rfl⟩, by omega, HO.out.drewN _, HC.out.drewN _⟩
  · go_wp2
    go_ret2
    exact ⟨b, a, k + 1, rfl, Or.inr ⟨rfl, rfl⟩, by omega, (HO.out.drewN _).other hs _, (HC.out.drewN _).set⟩
theorem median_any {w0 w : World} {g off m cap a b c sw k : Nat} {d : Array Int} (hO : Ou w0 w g off m d) (ha : a < d.size) (hb : b < d.size) (hc : c < d.size) (hsz : d.size < 1000000) (hs : w0.heap.size ≤ sw) (hC : Ct w sw (.int .i64 k)) (hk : k < 900) :
    Calls Tryz.prog 230 #[.slice (some ⟨g, off, none⟩) d.size cap, .int .i64 a, .int .i64 b, .int .i64 c, .pointer (some ⟨sw, 0, none⟩)] w fun e w' => ∃ p k' : Nat, e = .returned (.int .i64 p) ∧ (p = a ∨ p = b ∨ p = c) ∧ k' ≤ k + 3 ∧ Ou w0 w' g off m d ∧ Ct w' sw (.int .i64 k') := by
  obtain ⟨n, hn⟩ : ∃ n, d.size = n := ⟨_, rfl⟩
  have C2 : Hid (∀ (W : World) (x y z : Nat), Ou w0 W g off m d → Ct W sw (.int .i64 z) → x < n → y < n → z < 1000 → Calls Tryz.prog 246 #[.slice (some ⟨g, off, none⟩) n cap, .int .i64 x, .int .i64 y, .pointer (some ⟨sw, 0, none⟩)] W fun e w' => ∃ p q k' : Nat, e = .returned (.tuple #[.int .i64 p, .int .i64 q]) ∧ (p = x ∧ q = y ∨ p = y ∧ q = x) ∧ k' ≤ z + 1 ∧ Ou w0 w' g off m d ∧ Ct w' sw (.int .i64 k')) := fun W x y z h1 h2 h3 h4 h5 => by
    have := order2_any (cap := cap) (a := x) (b := y) h1 (by omega) (by omega) hsz hs h2 h5
    rw [hn] at this
    exact this
  rw [hn] at ha hb hc hsz ⊢
  have HO : Hid (Ou w0 w g off m d) := hO
  have HC : Hid (Ct w sw (.int .i64 k)) := hC
  clear hO hn hC
  go_enter Tryz.func230, Tryz.ntmps230
  go_wp2_with fail
  refine (C2.out w a b k HO.out HC.out ha hb (by omega)).mono ?_
  rintro e w1 ⟨p, q, k1, rfl, h1, h2, h3, h4⟩
  have H3 : Hid (Ou w0 w1 g off m d) := h3
  have H4 : Hid (Ct w1 sw (.int .i64 k1)) := h4
  clear h3 h4 HO HC
  go_wp2_with fail
  refine (C2.out w1 q c k1 H3.out H4.out (by omega) hc (by omega)).mono ?_
  rintro e w2 ⟨q2, r, k2, rfl, h5, h6, h7, h8⟩
  have H7 : Hid (Ou w0 w2 g off m d) := h7
  have H8 : Hid (Ct w2 sw (.int .i64 k2)) := h8
  clear h7 h8 H3 H4
  go_wp2_with fail
  refine (C2.out w2 p q2 k2 H7.out H8.out (by omega) (by omega) (by omega)).mono ?_
  rintro e w3 ⟨p3, q3, k3, rfl, h9, h10, h11, h12⟩
  have H11 : Hid (Ou w0 w3 g off m d) := h11
  have H12 : Hid (Ct w3 sw (.int .i64 k3)) := h12
  clear h11 h12 H7 H8
  go_wp2
  go_ret
  exact ⟨q3, k3, rfl, by omega, by omega, H11.out, H12.out⟩
theorem medianAdj_any {w0 w : World} {g off m cap a sw k : Nat} {d : Array Int} (hO : Ou w0 w g off m d) (ha0 : 1 ≤ a) (ha : a + 1 < d.size) (hsz : d.size < 1000000) (hs : w0.heap.size ≤ sw) (hC : Ct w sw (.int .i64 k)) (hk : k < 900) :
    Calls Tryz.prog 229 #[.slice (some ⟨g, off, none⟩) d.size cap, .int .i64 a, .pointer (some ⟨sw, 0, none⟩)] w fun e w' => ∃ p k' : Nat, e = .returned (.int .i64 p) ∧ (a - 1 ≤ p ∧ p ≤ a + 1) ∧ k' ≤ k + 3 ∧ Ou w0 w' g off m d ∧ Ct w' sw (.int .i64 k') := by
  have C2 : Hid (Calls _ _ _ _ _) := median_any (cap := cap) (a := a - 1) (b := a) (c := a + 1) hO (by omega) (by omega) (by omega) hsz hs hC hk
  have e1 : (a : Int) - 1 = ((a - 1 : Nat) : Int) := by omega
  have e2 : (a : Int) + 1 = ((a + 1 : Nat) : Int) := by omega
  obtain ⟨n, hn⟩ : ∃ n, d.size = n := ⟨_, rfl⟩
  rw [hn] at C2 ha hsz ⊢
  obtain ⟨x, hx⟩ : ∃ x, a - 1 = x := ⟨_, rfl⟩
  obtain ⟨y, hy⟩ : ∃ y, a + 1 = y := ⟨_, rfl⟩
  rw [hx] at e1 C2
  rw [hy] at e2 C2
  clear hO hC hn
  go_enter Tryz.func229, Tryz.ntmps229
  go_wp2_with fail
  refine C2.out.mono ?_
  rintro e w1 ⟨p, k1, rfl, h1, h2, h3, h4⟩
  have H3 : Hid (Ou w0 w1 g off m d) := h3
  have H4 : Hid (Ct w1 sw (.int .i64 k1)) := h4
  clear h3 h4
  go_wp2
  go_ret
  exact ⟨p, k1, rfl, by omega, h2, H3.out, H4.out⟩
set_option maxHeartbeats 2000000 in
theorem pivot_any {w0 w : World} {g off m cap a b : Nat} {d : Array Int} (hO : Ou w0 w g off m d) (hab : a + 12 < b) (hb : b ≤ d.size) (hsz : d.size < 1000000) :
    Calls Tryz.prog 201 #[.slice (some ⟨g, off, none⟩) d.size cap, .int .i64 a, .int .i64 b] w fun e w' => ∃ p h : Nat, e = .returned (.tuple #[.int .i64 p, .int .i64 h]) ∧ a ≤ p ∧ p < b ∧ h ≤ 2 ∧ Ou w0 w' g off m d := by
  have hw := hO.gr.size
  have CA : Hid (∀ (W : World) (x k : Nat), Ou w0 W g off m d → Ct W w.heap.size (.int .i64 k) → 1 ≤ x → x + 1 < d.size → k < 900 → Calls Tryz.prog 229 #[.slice (some ⟨g, off, none⟩) d.size cap, .int .i64 x, .pointer (some ⟨w.heap.size, 0, none⟩)] W fun e w' => ∃ p k' : Nat, e = .returned (.int .i64 p) ∧ (x - 1 ≤ p ∧ p ≤ x + 1) ∧ k' ≤ k + 3 ∧ Ou w0 w' g off m d ∧ Ct w' w.heap.size (.int .i64 k')) := fun W x k h1 h2 h3 h4 h5 => medianAdj_any h1 h3 h4 hsz hw h2 h5
  have CM : Hid (∀ (W : World) (x y z k : Nat), Ou w0 W g off m d → Ct W w.heap.size (.int .i64 k) → x < d.size → y < d.size → z < d.size → k < 900 → Calls Tryz.prog 230 #[.slice (some ⟨g, off, none⟩) d.size cap, .int .i64 x, .int .i64 y, .int .i64 z, .pointer (some ⟨w.heap.size, 0, none⟩)] W fun e w' => ∃ p k' : Nat, e = .returned (.int .i64 p) ∧ (p = x ∨ p = y ∨ p = z) ∧ k' ≤ k + 3 ∧ Ou w0 w' g off m d ∧ Ct w' w.heap.size (.int .i64 k')) := fun W x y z k h1 h2 h3 h4 h5 h6 => median_any h1 h3 h4 h5 hsz hw h2 h6
  obtain ⟨n, hn⟩ : ∃ n, d.size = n := ⟨_, rfl⟩
  rw [hn] at CA CM hb hsz ⊢
  obtain ⟨l, hl⟩ : ∃ l, b - a = l := ⟨_, rfl⟩
  obtain ⟨q, hq⟩ : ∃ q, l / 4 = q := ⟨_, rfl⟩
  have HO : Hid (Ou w0 (w.alloc (.cells #[.int .i64 0] 3)) g off m d) := hO.grow (World.grownBy_alloc _ _ _)
  have HC : Hid (Ct (w.alloc (.cells #[.int .i64 0] 3)) w.heap.size (.int .i64 (0 : Nat))) := ct_new w _ 3
  obtain ⟨x, hx⟩ : ∃ x, a + q * 1 = x := ⟨_, rfl⟩
  obtain ⟨y, hy⟩ : ∃ y, a + q * 2 = y := ⟨_, rfl⟩
  obtain ⟨z, hz⟩ : ∃ z, a + q * 3 = z := ⟨_, rfl⟩
  have i1 : (b : Int) - (a : Int) = (l : Int) := by omega
  have i2 : ((l : Int)).tdiv 4 = (q : Int) := by rw [Int.tdiv_eq_ediv_of_nonneg (by omega)]; omega
  have i3 : (a : Int) + (q : Int) = (x : Int) := by omega
  have i4 : (a : Int) + (q : Int) * 2 = (y : Int) := by omega
  have i5 : (a : Int) + (q : Int) * 3 = (z : Int) := by omega
  have q1 : (8 : Int) ≤ (l : Int) := by omega
  have hqn : q < n := by omega
  clear hO hn hw
  have OUT : Hid (∀ p : Nat, p = x ∨ p = y ∨ p = z → a ≤ p ∧ p < b) := fun p hp => by omega
  have OUT2 : Hid (∀ p x' y' z' : Nat, 50 ≤ l → (x - 1 ≤ x' ∧ x' ≤ x + 1) → (y - 1 ≤ y' ∧ y' ≤ y + 1) → (z - 1 ≤ z' ∧ z' ≤ z + 1) → p = x' ∨ p = y' ∨ p = z' → a ≤ p ∧ p < b) := fun p x' y' z' h0 h1 h2 h3 h4 => by omega
  have BX : Hid (1 ≤ x ∧ 1 ≤ y ∧ 1 ≤ z ∧ x + 1 < n ∧ y + 1 < n ∧ z + 1 ≤ n ∧ (50 ≤ l → z + 1 < n)) := ⟨by omega, by omega, by omega, by omega, by omega, by omega, fun h => by omega⟩
  go_enter Tryz.func201, Tryz.ntmps201
  by_cases h50 : 50 ≤ l
  · have h50I : (50 : Int) ≤ (l : Int) := by omega
    clear hx hy hz hl hq
    go_wp2_with fail
    refine (CA.out _ x 0 HO.out HC.out BX.out.1 BX.out.2.2.2.1 (by omega)).mono ?_
    rintro e w1 ⟨x', k1, rfl, a1, a2, a3, a4⟩
    have A3 : Hid (Ou w0 w1 g off m d) := a3
    have A4 : Hid (Ct w1 w.heap.size (.int .i64 k1)) := a4
    clear a3 a4 HO HC
    go_wp2_with fail
    refine (CA.out _ y k1 A3.out A4.out BX.out.2.1 BX.out.2.2.2.2.1 (by omega)).mono ?_
    rintro e w2 ⟨y', k2, rfl, b1, b2, b3, b4⟩
    have B3 : Hid (Ou w0 w2 g off m d) := b3
    have B4 : Hid (Ct w2 w.heap.size (.int .i64 k2)) := b4
    clear b3 b4 A3 A4
    go_wp2_with fail
    refine (CA.out _ z k2 B3.out B4.out BX.out.2.2.1 (BX.out.2.2.2.2.2.2 h50) (by omega)).mono ?_
    rintro e w3 ⟨z', k3, rfl, c1, c2, c3, c4⟩
    have C3 : Hid (Ou w0 w3 g off m d) := c3
    have C4 : Hid (Ct w3 w.heap.size (.int .i64 k3)) := c4
    have BB := BX.out
    clear c3 c4 B3 B4
    go_wp2_with fail
    refine (CM.out _ x' y' z' k3 C3.out C4.out (by omega) (by omega) (by have := BB.2.2.2.2.2.2 h50; omega) (by omega)).mono ?_
    rintro e w4 ⟨p, k4, rfl, d1, d2, d3, d4⟩
    have D3 : Hid (Ou w0 w4 g off m d) := d3
    have hck := d4.c
    obtain ⟨r1, r2⟩ := OUT2.out p x' y' z' h50 a1 b1 c1 d1
    clear d3 d4 C3 C4 BB
    by_cases e0 : k4 = 0
    · subst e0
      go_wp2
      go_ret2
      exact ⟨p, 1, rfl, r1, r2, by omega, D3.out⟩
    · by_cases e12 : k4 = 12
      · subst e12
        go_wp2
        go_ret2
        exact ⟨p, 2, rfl, r1, r2, by omega, D3.out⟩
      · have z1 : ((k4 : Int) == 0) = false := by simp; omega
        have z2 : ((k4 : Int) == 12) = false := by simp; omega
        have z3 : ¬ (k4 : Int) = 0 := by omega
        have z4 : ¬ (k4 : Int) = 12 := by omega
        go_wp2
        go_ret2
        exact ⟨p, 0, rfl, r1, r2, by omega, D3.out⟩
  · have h50I : ¬ (50 : Int) ≤ (l : Int) := by omega
    clear hx hy hz hl hq
    have BB := BX.out
    go_wp2_with fail
    refine (CM.out _ x y z 0 HO.out HC.out (by omega) (by omega) (by omega) (by omega)).mono ?_
    rintro e w4 ⟨p, k4, rfl, d1, d2, d3, d4⟩
    have D3 : Hid (Ou w0 w4 g off m d) := d3
    have hck := d4.c
    obtain ⟨r1, r2⟩ := OUT.out p d1
    clear d3 d4 BB HO HC
    by_cases e0 : k4 = 0
    · subst e0
      go_wp2
      go_ret2
      exact ⟨p, 1, rfl, r1, r2, by omega, D3.out⟩
    · by_cases e12 : k4 = 12
      · subst e12
        go_wp2
        go_ret2
        exact ⟨p, 2, rfl, r1, r2, by omega, D3.out⟩
      · have z1 : ((k4 : Int) == 0) = false := by simp; omega
        have z2 : ((k4 : Int) == 12) = false := by simp; omega
        have z3 : ¬ (k4 : Int) = 0 := by omega
        have z4 : ¬ (k4 : Int) = 12 := by omega
        go_wp2
        go_ret2
        exact ⟨p, 0, rfl, r1, r2, by omega, D3.out⟩
theorem npt_any (n : Nat) (hn : n < 1000000) (w : World) : Calls Tryz.prog 193 #[.int .i64 n] w fun e w' => e = .returned (.int .u64 ((1 <<< Go.Sort.bitsLen n : Nat) : Int)) ∧ w' = w :=
  calls_of_every_depth fun D => AnySM.nextPowerOfTwoIn { P.sortA with } D n (by omega) w
theorem xnext_any (b X : Nat) (hX : X < 18446744073709551616) (w : World) (h : Ct w b (.int .u64 X)) : Calls Tryz.prog 194 #[.pointer (some ⟨b, 0, none⟩)] w fun e w' => ∃ Y : Nat, e = .returned (.int .u64 Y) ∧ Y < 18446744073709551616 ∧ ∃ q, w' = (w.setCell ⟨b, 0, none⟩ (.int .u64 Y)).drewN q := by
  refine (calls_of_every_depth fun D => AnySM.xorshift_NextIn { P.sortA with } D b 0 X hX w h.c h.f).mono ?_
  rintro e w' ⟨rfl, rfl⟩
  exact ⟨_, rfl, Go.Sort.xorNextN_lt X hX, _, rfl⟩
theorem Ct.aside {w : World} {b g i : Nat} {v u : Value} (h : Ct w b v) (hne : g ≠ b) : Ct (w.setCell ⟨g, i, none⟩ u) b v :=
  ⟨by rw [World.cell?_setCell_other _ _ _ _ (by intro e; injection e with e1; exact hne e1)]; exact h.c, by rw [World.frozen?_setCell]; exact h.f⟩
set_option maxHeartbeats 2000000 in
theorem break_any {w0 w : World} {g off m cap a b : Nat} {d : Array Int} (hO : Ou w0 w g off m d) (hab : a + 12 < b) (hb : b ≤ d.size) (hsz : d.size < 1000000) :
    Calls Tryz.prog 200 #[.slice (some ⟨g, off, none⟩) d.size cap, .int .i64 a, .int .i64 b] w fun e w' => ∃ d', e = .returned (.tuple #[]) ∧ PermIn a b d d' ∧ Ou w0 w' g off m d' := by
  have hw := hO.gr.size
  obtain ⟨n, hn⟩ : ∃ n, d.size = n := ⟨_, rfl⟩
  rw [hn] at hb hsz ⊢
  obtain ⟨l, hl⟩ : ∃ l, b - a = l := ⟨_, rfl⟩
  obtain ⟨q, hq⟩ : ∃ q, l / 4 = q := ⟨_, rfl⟩
  obtain ⟨M, hM⟩ : ∃ M, 1 <<< Go.Sort.bitsLen l = M := ⟨_, rfl⟩
  have hM1 : l < M := by rw [← hM, Nat.one_shiftLeft]; exact Go.Sort.lt_two_pow_bitsLen l
  have hM2 : M ≤ 2 * l := by rw [← hM, Nat.one_shiftLeft]; exact Go.Sort.two_pow_bitsLen_le (by omega)
  have CN : Hid (∀ W : World, Calls Tryz.prog 193 #[.int .i64 l] W fun e w' => e = .returned (.int .u64 (M : Nat)) ∧ w' = W) := fun W => by
    rw [← hM]
    exact npt_any l (by omega) W
  obtain ⟨y, hy⟩ : ∃ y, a + q * 2 = y := ⟨_, rfl⟩
  have i1 : (b : Int) - (a : Int) = (l : Int) := by omega
  have i2 : ((l : Int)).tdiv 4 = (q : Int) := by rw [Int.tdiv_eq_ediv_of_nonneg (by omega)]; omega
  have i4 : (a : Int) + (q : Int) * 2 = (y : Int) := by omega
  have q1 : (8 : Int) ≤ (l : Int) := by omega
  have hqn : q < n := by omega
  have HY : Hid (a + 1 ≤ y ∧ y + 1 < b) := ⟨by omega, by omega⟩
  have hyn : y + 1 < n := by omega
  have hln : l ≤ n := by omega
  have HN : Hid (d.size = n) := hn
  have HO : Hid (Ou w0 w g off m d) := hO
  have HW : Hid (w0.heap.size ≤ w.heap.size) := hw
  have HL : Hid (a + l = b) := (by omega : a + l = b)
  have hy1 : 1 ≤ y := by omega
  clear hO hn hw hM hl hq hy
  go_enter Tryz.func200, Tryz.ntmps200
  go_wp2_with fail
  refine (CN.out _).mono ?_
  rintro e w1 ⟨rfl, hw1⟩
  have HC1 : Hid (Ct w1 w.heap.size (.int .u64 (l : Nat))) := by rw [hw1]; first | exact ct_new w _ _ | exact (ct_new w _ _).set
  have HO1 : Hid (Ou w0 w1 g off m d) := by rw [hw1]; first | exact (HO.out.grow (World.grownBy_alloc _ _ _)).other HW.out _ | exact HO.out.grow (World.grownBy_alloc _ _ _)
  clear hw1 CN HO
  go_wp2
  go_loopw [9] (fun z wr => ∃ (i X : Nat) (x : Array Int), z = .int .i64 i ∧ y ≤ i + 1 ∧ i ≤ y + 2 ∧ X < 18446744073709551616 ∧ x.size = n ∧ Ou w0 wr g off m x ∧ Ct wr w.heap.size (.int .u64 X) ∧ PermIn a b d x) (fun z _ => y + 3 - (iv z).toNat)
  case atStart => exact ⟨y - 1, l, d, by go_num, by omega, by omega, by omega, HN.out, HO1.out, HC1.out, Go.Sort.permIn_refl _ _ _⟩
  case round =>
    clear HO1 HC1
    obtain ⟨i, X, x, rfl, h1, h2, h3, h4, h5, h6, h7⟩ := hrel
    have CX : Hid (Calls _ _ _ _ _) := xnext_any w.heap.size X h3 wr h6
    have H4 : Hid (x.size = n) := h4
    have H5 : Hid (Ou w0 wr g off m x) := h5
    have H6 : Hid (Ct wr w.heap.size (.int .u64 X)) := h6
    have H7 : Hid (PermIn a b d x) := h7
    obtain ⟨G, hG⟩ : ∃ G : Nat → Int, ∀ t, G t = x[t]! := ⟨fun t => x[t]!, fun _ => rfl⟩
    have HG : Hid (∀ t, G t = x[t]!) := hG
    clear h4 h5 h6 h7 hG
    by_cases hi : i ≤ y + 1
    · have hiI : (i : Int) ≤ (y : Int) + 1 := by omega
      go_wp2_with fail
      refine CX.out.mono ?_
      rintro e w2 ⟨Y, rfl, hY, c, hw2⟩
      have Q5 : Hid (Ou w0 w2 g off m x) := by rw [hw2]; exact (H5.out.other HW.out _).drewN _
      have Q6 : Hid (Ct w2 w.heap.size (.int .u64 Y)) := by rw [hw2]; exact H6.out.set.drewN _
      clear hw2 CX H5 H6
      obtain ⟨o, ho⟩ : ∃ o : Nat, Y &&& (M - 1) = o := ⟨_, rfl⟩
      have hoM : o < M := by rw [← ho]; have := Nat.and_le_right (n := Y) (m := M - 1); omega
      have e1 : ((M : Int) - 1) = ((M - 1 : Nat) : Int) := by omega
      have e2 : bits BinOp.and IntKind.u64 (Y : Int) ((M - 1 : Nat) : Int) = (o : Int) := by rw [bits_and_u64_nat Y (M - 1) hY (by omega), ho]
      have ho2 : o < 2000000 := by omega
      clear ho
      by_cases hol : l ≤ o
      · obtain ⟨o2, ho3⟩ : ∃ o2 : Nat, o - l = o2 := ⟨_, rfl⟩
        have i8 : (o : Int) - (l : Int) = (o2 : Int) := by omega
        obtain ⟨p, hp⟩ : ∃ p : Nat, a + o2 = p := ⟨_, rfl⟩
        have HPb : Hid (a ≤ p ∧ p < b) := (by have := HL.out; omega : a ≤ p ∧ p < b)
        have ip : (a : Int) + (o2 : Int) = (p : Int) := by omega
        have hpn : p < n := by have := HPb.out; omega
        have hin : i < n := by omega
        have hc : ∀ t, t < n → w2.cell? ⟨g, off + t, none⟩ = some (.int .u64 (G t)) := fun t ht => by rw [HG.out]; exact Q5.out.cell (by rw [H4.out]; exact ht)
        have hf : ∀ t, t < n → w2.frozen? ⟨g, off + t, none⟩ = false := fun t ht => Q5.out.fz _
        have REL : Hid (∀ qq : Nat, Ou w0 (((w2.drewN qq).setCell ⟨g, off + i, none⟩ (.int .u64 (G p))).setCell ⟨g, off + p, none⟩ (.int .u64 (G i))) g off m (swp x i p) ∧ Ct (((w2.drewN qq).setCell ⟨g, off + i, none⟩ (.int .u64 (G p))).setCell ⟨g, off + p, none⟩ (.int .u64 (G i))) w.heap.size (.int .u64 Y)) := fun qq => by
          have hgs : g ≠ w.heap.size := fun z => by have := Q5.out.lt; have := HW.out; omega
          exact ⟨Q5.out.swap (by rw [H4.out]; exact hin) (by rw [H4.out]; exact hpn) qq (HG.out _) (HG.out _), ((Q6.out.drewN qq).aside hgs).aside hgs⟩
        have RP : Hid (PermIn a b d (swp x i p) ∧ (swp x i p).size = n) := ⟨Go.Sort.permIn_trans _ _ _ _ _ H7.out (Go.Sort.swp_permIn _ a b i p (by have := HY.out; omega) (by have := HY.out; omega) HPb.out.1 HPb.out.2 (by rw [H4.out]; exact hb)), by rw [Go.Sort.size_swp]; exact H4.out⟩
        clear hp HPb
        go_wp2
        rcases Nat.lt_trichotomy i p with hip | hip | hip
        · go_region
          all_goals go_wp2
          go_roundw
          case rel => exact ⟨i + 1, Y, _, by go_num, by omega, by omega, hY, RP.out.2, (REL.out _).1, (REL.out _).2, RP.out.1⟩
          case measure => simp [iv]; omega
        · subst hip
          go_region
          all_goals go_wp2
          go_roundw
          case rel => exact ⟨i + 1, Y, _, by go_num, by omega, by omega, hY, RP.out.2, (REL.out _).1, (REL.out _).2, RP.out.1⟩
          case measure => simp [iv]; omega
        · go_region
          all_goals go_wp2
          go_roundw
          case rel => exact ⟨i + 1, Y, _, by go_num, by omega, by omega, hY, RP.out.2, (REL.out _).1, (REL.out _).2, RP.out.1⟩
          case measure => simp [iv]; omega
      · have hol2 : ¬ (l : Int) ≤ (o : Int) := by omega
        obtain ⟨p, hp⟩ : ∃ p : Nat, a + o = p := ⟨_, rfl⟩
        have HPb : Hid (a ≤ p ∧ p < b) := (by have := HL.out; omega : a ≤ p ∧ p < b)
        have ip : (a : Int) + (o : Int) = (p : Int) := by omega
        have hpn : p < n := by have := HPb.out; omega
        have hin : i < n := by omega
        have hc : ∀ t, t < n → w2.cell? ⟨g, off + t, none⟩ = some (.int .u64 (G t)) := fun t ht => by rw [HG.out]; exact Q5.out.cell (by rw [H4.out]; exact ht)
        have hf : ∀ t, t < n → w2.frozen? ⟨g, off + t, none⟩ = false := fun t ht => Q5.out.fz _
        have REL : Hid (∀ qq : Nat, Ou w0 (((w2.drewN qq).setCell ⟨g, off + i, none⟩ (.int .u64 (G p))).setCell ⟨g, off + p, none⟩ (.int .u64 (G i))) g off m (swp x i p) ∧ Ct (((w2.drewN qq).setCell ⟨g, off + i, none⟩ (.int .u64 (G p))).setCell ⟨g, off + p, none⟩ (.int .u64 (G i))) w.heap.size (.int .u64 Y)) := fun qq => by
          have hgs : g ≠ w.heap.size := fun z => by have := Q5.out.lt; have := HW.out; omega
          exact ⟨Q5.out.swap (by rw [H4.out]; exact hin) (by rw [H4.out]; exact hpn) qq (HG.out _) (HG.out _), ((Q6.out.drewN qq).aside hgs).aside hgs⟩
        have RP : Hid (PermIn a b d (swp x i p) ∧ (swp x i p).size = n) := ⟨Go.Sort.permIn_trans _ _ _ _ _ H7.out (Go.Sort.swp_permIn _ a b i p (by have := HY.out; omega) (by have := HY.out; omega) HPb.out.1 HPb.out.2 (by rw [H4.out]; exact hb)), by rw [Go.Sort.size_swp]; exact H4.out⟩
        clear hp HPb
        go_wp2
        rcases Nat.lt_trichotomy i p with hip | hip | hip
        · go_region
          all_goals go_wp2
          go_roundw
          case rel => exact ⟨i + 1, Y, _, by go_num, by omega, by omega, hY, RP.out.2, (REL.out _).1, (REL.out _).2, RP.out.1⟩
          case measure => simp [iv]; omega
        · subst hip
          go_region
          all_goals go_wp2
          go_roundw
          case rel => exact ⟨i + 1, Y, _, by go_num, by omega, by omega, hY, RP.out.2, (REL.out _).1, (REL.out _).2, RP.out.1⟩
          case measure => simp [iv]; omega
        · go_region
          all_goals go_wp2
          go_roundw
          case rel => exact ⟨i + 1, Y, _, by go_num, by omega, by omega, hY, RP.out.2, (REL.out _).1, (REL.out _).2, RP.out.1⟩
          case measure => simp [iv]; omega
    · obtain rfl : i = y + 2 := by omega
      go_wp2
      first | go_end0 | refine bodyPost_ret (results_none rfl _ _ _) rfl ?_
      exact ⟨_, rfl, H7.out, H5.out⟩
end Go.Proofs.YtkbpnkjjmipjfaaGreat.U
