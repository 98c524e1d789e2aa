/- VmaKnown: what Check tells of the twelve lists; the whole statement; no condition. -/
import Derived.Test.YtmhfgfgiiinpjabKd
import Derived.Deep.DeepCutAuto
namespace Go.Proofs.Ytmhfgfgiiinpjab.V
open Go.ChangeShapes Go.WideShapes Go.ChangeAt Go.RowKit
set_option linter.unusedVariables false
set_option linter.unusedSimpArgs false
set_option maxRecDepth 8192

def LS : List (List Rg) := [[⟨10, 2, 3⟩, ⟨5, 3, 1⟩], [⟨5, 3, 1⟩, ⟨8, 1, 1⟩], [⟨5, 3, 1⟩, ⟨8, 1, 0⟩], [⟨0, 1, 1⟩], [⟨5, 1, 2⟩], [⟨5, 0, 1⟩], [⟨1, 1048575, 0⟩], [⟨1, 1048576, 0⟩], [⟨9223372036854775807, 9223372036854775807, 0⟩], [⟨5, 3, 0⟩, ⟨7, 1, 1⟩]]
/-- The twelve lists. -/
def LL : List (List Rg) := tw :: LS ++ [[]]
def es : List Int := [0, 2, 2, 0, 2, 2, 2, 0, 2, 2, 2, 0]
theorem es_ok : LL.map chk = es := by decide
theorem LL_wf : ∀ l ∈ LL, ∀ r ∈ l, wfR r := by unfold wfR; decide
theorem LL_len : LL.length = 12 := rfl
/-- Lists laid one behind the other. -/
def alts (w : World) : List (List Rg) → World
  | [] => w
  | l :: k => alts (w.alloc (.cells (rcs l).toArray 26)) k
theorem alts_below : ∀ (k : List (List Rg)) (w : World), Below w.heap.size w (alts w k)
  | [], w => Below.refl _ _
  | l :: k, w => bs (below1 w _) (alts_below k _)
theorem alts_size : ∀ (k : List (List Rg)) (w : World), (alts w k).heap.size = w.heap.size + k.length
  | [], w => rfl
  | l :: k, w => by
    show (alts (w.alloc (.cells (rcs l).toArray 26)) k).heap.size = _
    rw [alts_size k]
    simp
    omega
theorem alts_rn : ∀ (k : List (List Rg)) (w : World) (i : Nat) (hi : i < k.length), Rn (alts w k) (some ⟨w.heap.size + i, 0, none⟩) k[i]
  | [], w, i, hi => absurd hi (by simp)
  | l :: k, w, 0, hi => (litn w l 26 (rcs l).toArray rfl).below (alts_below k _)
  | l :: k, w, i + 1, hi => by
    have h := alts_rn k (w.alloc (.cells (rcs l).toArray 26)) i (by simpa using hi)
    have e : (w.alloc (.cells (rcs l).toArray 26)).heap.size = w.heap.size + 1 := by simp
    rw [e, show w.heap.size + 1 + i = w.heap.size + (i + 1) by omega] at h
    exact h
/-- Where the twelve lists lie. -/
def Lt (W : World) (G : Nat) : Prop := ∀ (k : Nat) (hk : k < LL.length), ∃ ao c, W.cell? ⟨G, k, none⟩ = some (.slice ao (LL[k]).length c) ∧ Rn W ao LL[k]
theorem Lt.below {W W' : World} {G : Nat} (h : Lt W G) (k : Below W.heap.size W W') : Lt W' G := fun i hi => by
  obtain ⟨ao, c, h1, h2⟩ := h i hi
  exact ⟨ao, c, (k.cell (World.block_lt_of_cell? W _ h1)).trans h1, h2.below k⟩
theorem lits (w : World) (g : Nat) (h : Rn w (some ⟨g, 0, none⟩) tw) : Lt ((alts w LS).alloc (.cells #[.slice (some ⟨g, 0, none⟩) 2 2, .slice (some ⟨w.heap.size, 0, none⟩) 2 2, .slice (some ⟨w.heap.size + 1, 0, none⟩) 2 2, .slice (some ⟨w.heap.size + 1 + 1, 0, none⟩) 2 2, .slice (some ⟨w.heap.size + 1 + 1 + 1, 0, none⟩) 1 1, .slice (some ⟨w.heap.size + 1 + 1 + 1 + 1, 0, none⟩) 1 1, .slice (some ⟨w.heap.size + 1 + 1 + 1 + 1 + 1, 0, none⟩) 1 1, .slice (some ⟨w.heap.size + 1 + 1 + 1 + 1 + 1 + 1, 0, none⟩) 1 1, .slice (some ⟨w.heap.size + 1 + 1 + 1 + 1 + 1 + 1 + 1, 0, none⟩) 1 1, .slice (some ⟨w.heap.size + 1 + 1 + 1 + 1 + 1 + 1 + 1 + 1, 0, none⟩) 1 1, .slice (some ⟨w.heap.size + 1 + 1 + 1 + 1 + 1 + 1 + 1 + 1 + 1, 0, none⟩) 2 2, .slice none 0 0] 23)) (w.heap.size + 1 + 1 + 1 + 1 + 1 + 1 + 1 + 1 + 1 + 1) := by
  have hs : (alts w LS).heap.size = w.heap.size + 1 + 1 + 1 + 1 + 1 + 1 + 1 + 1 + 1 + 1 := alts_size LS w
  have hc : ∀ i, ((alts w LS).alloc (.cells #[.slice (some ⟨g, 0, none⟩) 2 2, .slice (some ⟨w.heap.size, 0, none⟩) 2 2, .slice (some ⟨w.heap.size + 1, 0, none⟩) 2 2, .slice (some ⟨w.heap.size + 1 + 1, 0, none⟩) 2 2, .slice (some ⟨w.heap.size + 1 + 1 + 1, 0, none⟩) 1 1, .slice (some ⟨w.heap.size + 1 + 1 + 1 + 1, 0, none⟩) 1 1, .slice (some ⟨w.heap.size + 1 + 1 + 1 + 1 + 1, 0, none⟩) 1 1, .slice (some ⟨w.heap.size + 1 + 1 + 1 + 1 + 1 + 1, 0, none⟩) 1 1, .slice (some ⟨w.heap.size + 1 + 1 + 1 + 1 + 1 + 1 + 1, 0, none⟩) 1 1, .slice (some ⟨w.heap.size + 1 + 1 + 1 + 1 + 1 + 1 + 1 + 1, 0, none⟩) 1 1, .slice (some ⟨w.heap.size + 1 + 1 + 1 + 1 + 1 + 1 + 1 + 1 + 1, 0, none⟩) 2 2, .slice none 0 0] 23)).cell? ⟨w.heap.size + 1 + 1 + 1 + 1 + 1 + 1 + 1 + 1 + 1 + 1, i, none⟩ = #[.slice (some ⟨g, 0, none⟩) 2 2, .slice (some ⟨w.heap.size, 0, none⟩) 2 2, .slice (some ⟨w.heap.size + 1, 0, none⟩) 2 2, .slice (some ⟨w.heap.size + 1 + 1, 0, none⟩) 2 2, .slice (some ⟨w.heap.size + 1 + 1 + 1, 0, none⟩) 1 1, .slice (some ⟨w.heap.size + 1 + 1 + 1 + 1, 0, none⟩) 1 1, .slice (some ⟨w.heap.size + 1 + 1 + 1 + 1 + 1, 0, none⟩) 1 1, .slice (some ⟨w.heap.size + 1 + 1 + 1 + 1 + 1 + 1, 0, none⟩) 1 1, .slice (some ⟨w.heap.size + 1 + 1 + 1 + 1 + 1 + 1 + 1, 0, none⟩) 1 1, .slice (some ⟨w.heap.size + 1 + 1 + 1 + 1 + 1 + 1 + 1 + 1, 0, none⟩) 1 1, .slice (some ⟨w.heap.size + 1 + 1 + 1 + 1 + 1 + 1 + 1 + 1 + 1, 0, none⟩) 2 2, .slice none 0 0][i]? := fun i => by
    have := World.cell?_alloc_new (alts w LS) #[.slice (some ⟨g, 0, none⟩) 2 2, .slice (some ⟨w.heap.size, 0, none⟩) 2 2, .slice (some ⟨w.heap.size + 1, 0, none⟩) 2 2, .slice (some ⟨w.heap.size + 1 + 1, 0, none⟩) 2 2, .slice (some ⟨w.heap.size + 1 + 1 + 1, 0, none⟩) 1 1, .slice (some ⟨w.heap.size + 1 + 1 + 1 + 1, 0, none⟩) 1 1, .slice (some ⟨w.heap.size + 1 + 1 + 1 + 1 + 1, 0, none⟩) 1 1, .slice (some ⟨w.heap.size + 1 + 1 + 1 + 1 + 1 + 1, 0, none⟩) 1 1, .slice (some ⟨w.heap.size + 1 + 1 + 1 + 1 + 1 + 1 + 1, 0, none⟩) 1 1, .slice (some ⟨w.heap.size + 1 + 1 + 1 + 1 + 1 + 1 + 1 + 1, 0, none⟩) 1 1, .slice (some ⟨w.heap.size + 1 + 1 + 1 + 1 + 1 + 1 + 1 + 1 + 1, 0, none⟩) 2 2, .slice none 0 0] 23 (i := i)
    rw [hs] at this
    exact this
  have hr : ∀ (i : Nat) (hi : i < LS.length), Rn ((alts w LS).alloc (.cells #[.slice (some ⟨g, 0, none⟩) 2 2, .slice (some ⟨w.heap.size, 0, none⟩) 2 2, .slice (some ⟨w.heap.size + 1, 0, none⟩) 2 2, .slice (some ⟨w.heap.size + 1 + 1, 0, none⟩) 2 2, .slice (some ⟨w.heap.size + 1 + 1 + 1, 0, none⟩) 1 1, .slice (some ⟨w.heap.size + 1 + 1 + 1 + 1, 0, none⟩) 1 1, .slice (some ⟨w.heap.size + 1 + 1 + 1 + 1 + 1, 0, none⟩) 1 1, .slice (some ⟨w.heap.size + 1 + 1 + 1 + 1 + 1 + 1, 0, none⟩) 1 1, .slice (some ⟨w.heap.size + 1 + 1 + 1 + 1 + 1 + 1 + 1, 0, none⟩) 1 1, .slice (some ⟨w.heap.size + 1 + 1 + 1 + 1 + 1 + 1 + 1 + 1, 0, none⟩) 1 1, .slice (some ⟨w.heap.size + 1 + 1 + 1 + 1 + 1 + 1 + 1 + 1 + 1, 0, none⟩) 2 2, .slice none 0 0] 23)) (some ⟨w.heap.size + i, 0, none⟩) LS[i] := fun i hi => (alts_rn LS w i hi).alloc _
  have h0 : Rn ((alts w LS).alloc (.cells #[.slice (some ⟨g, 0, none⟩) 2 2, .slice (some ⟨w.heap.size, 0, none⟩) 2 2, .slice (some ⟨w.heap.size + 1, 0, none⟩) 2 2, .slice (some ⟨w.heap.size + 1 + 1, 0, none⟩) 2 2, .slice (some ⟨w.heap.size + 1 + 1 + 1, 0, none⟩) 1 1, .slice (some ⟨w.heap.size + 1 + 1 + 1 + 1, 0, none⟩) 1 1, .slice (some ⟨w.heap.size + 1 + 1 + 1 + 1 + 1, 0, none⟩) 1 1, .slice (some ⟨w.heap.size + 1 + 1 + 1 + 1 + 1 + 1, 0, none⟩) 1 1, .slice (some ⟨w.heap.size + 1 + 1 + 1 + 1 + 1 + 1 + 1, 0, none⟩) 1 1, .slice (some ⟨w.heap.size + 1 + 1 + 1 + 1 + 1 + 1 + 1 + 1, 0, none⟩) 1 1, .slice (some ⟨w.heap.size + 1 + 1 + 1 + 1 + 1 + 1 + 1 + 1 + 1, 0, none⟩) 2 2, .slice none 0 0] 23)) (some ⟨g, 0, none⟩) tw := (h.below (alts_below LS w)).alloc _
  intro k hk
  match k, hk with
  | 0, _ => exact ⟨_, _, hc 0, h0⟩
  | 1, _ => exact ⟨_, _, hc 1, hr 0 (by decide)⟩
  | 2, _ => exact ⟨_, _, hc 2, hr 1 (by decide)⟩
  | 3, _ => exact ⟨_, _, hc 3, hr 2 (by decide)⟩
  | 4, _ => exact ⟨_, _, hc 4, hr 3 (by decide)⟩
  | 5, _ => exact ⟨_, _, hc 5, hr 4 (by decide)⟩
  | 6, _ => exact ⟨_, _, hc 6, hr 5 (by decide)⟩
  | 7, _ => exact ⟨_, _, hc 7, hr 6 (by decide)⟩
  | 8, _ => exact ⟨_, _, hc 8, hr 7 (by decide)⟩
  | 9, _ => exact ⟨_, _, hc 9, hr 8 (by decide)⟩
  | 10, _ => exact ⟨_, _, hc 10, hr 9 (by decide)⟩
  | 11, _ => exact ⟨_, _, hc 11, Rn.nil _ _⟩
  | k + 12, hk => exact absurd hk (by rw [LL_len]; omega)
theorem Try.infoEr : (Try.prog.info? 28).map (fun i => (i.zero, i.size, i.bytes)) = some (some (.int .i64 0), 1, 8) := by kernel_rfl
/-- A row of errors in the call's own memory from B on. -/
def Ew (w : World) (B : Nat) (v : Value) (l : List Int) : Prop := w.ownsRow B 28 1 v l.length (l.map (.int .i64 ·))
theorem Ew.nil (w : World) (B : Nat) : Ew w B (.slice none 0 0) [] := World.ownsRow_nil _ _ _ _
theorem Ew.below {w w' : World} {B : Nat} {v : Value} {l : List Int} (h : Ew w B v l) (k : Below w.heap.size w w') : Ew w' B v l := row_eq h (fun g hg => k.block g (row_lt h g hg).2)
theorem cell_one_new (w : World) (v : Value) (t : TypeId) : ∀ j u, [v][j]? = some u → (w.alloc (.cells #[v] t)).cell? ((⟨w.heap.size, 0, none⟩ : Addr).add j) = some u := by
  intro j u hu
  rw [Addr.add_lit, World.cell?_alloc_new, Nat.zero_add]
  simpa using hu
theorem app_ew {w : World} {B : Nat} {v : Value} {l : List Int} (h : Ew w B v l) (x : Int) (hb : B ≤ w.heap.size) (hle : l.length ≤ 100000) (ty : TypeId) :
    ∃ v' w', (Builtin.append_ #[22, 22] ty #[v, .slice (some ⟨w.heap.size, 0, none⟩) 1 1]).run Try.prog (w.alloc (.cells #[.int .i64 x] 28)) = .ok v' w' ∧ Ew w' B v' (l ++ [x]) ∧ ∀ w0, Below w0.heap.size w0 w → w0.heap.size ≤ B → Below w0.heap.size w0 w' := by
  obtain ⟨i0, hi0, hz0, hz1, hz2⟩ := info_parts Try.infoEr
  have ha : Ew (w.alloc (.cells #[.int .i64 x] 28)) B v l := h.below (below1 w _)
  have hbs : B ≤ (w.alloc (.cells #[.int .i64 x] 28)).heap.size := by simp; omega
  obtain ⟨v', w', hr, ho, hg, _, hat⟩ := run_append_own_at (w.alloc (.cells #[.int .i64 x] 28)) B 22 ty 28 i0 _ 1 8 Try.underlying22 hi0 hz0 hz1 hz2 rfl (by decide) v l.length (l.map (.int .i64 ·)) ha ⟨w.heap.size, 0, none⟩ 1 1 [.int .i64 x] rfl (cell_one_new w _ _) (by intro u hu; rw [List.mem_singleton.1 hu]; rfl) (by unfold maxLen; omega) (by omega) hbs
  refine ⟨v', w', hr, ?_, fun w0 h0 hB => (bal h0 _).grown hg (bal h0 _).size (fun k e => Nat.le_trans hB (row_lt ha k e).1)⟩
  unfold Ew
  rw [List.map_append, List.length_append]
  exact ho
theorem Ew.cell {w : World} {B : Nat} {v : Value} {l : List Int} (h : Ew w B v l) (hl : 0 < l.length) : ∃ g c, v = .slice (some ⟨g, 0, none⟩) l.length c ∧ ∀ i (hi : i < l.length), w.cell? ⟨g, i, none⟩ = some (.int .i64 l[i]) := by
  obtain ⟨_, ⟨rfl, h2⟩ | ⟨g', cap, cur, rfl, hb, hw, hn, hm, hs, ht⟩⟩ := h
  · omega
  · refine ⟨_, cap, rfl, fun i hi => ?_⟩
    rw [cell_of_row w g' i _ 28 (0, 0) hw, ← Array.getElem?_toList]
    have q : (cur.toList.take (l.length * 1))[i]? = some (.int .i64 l[i]) := by
      rw [ht, List.getElem?_map, List.getElem?_eq_getElem hi]
      rfl
    rw [List.getElem?_take_of_lt (by omega)] at q
    exact q
theorem wpList_apps {w : World} {ops : Array Oper} {rest : List Oper} {o : Oper} {a : Act} {Q : Exit → Act → World → Prop} {R : Value → World → Prop} (hgd : o.guard = none) (s x : Operand)
    (ho : o.op = .call { callee := .builtin .append, args := #[s, x], argTypes := #[22, 22] }) (vs vx : Value) (hs : a.eval s = vs) (hx : a.eval x = vx)
    (hr : ∃ v' w', (Builtin.append_ #[22, 22] o.type #[vs, vx]).run Try.prog w = .ok v' w' ∧ R v' w') (h : ∀ v' w', R v' w' → wpList Try.prog ops Q rest (a.put o.dst v') w') : wpList Try.prog ops Q (o :: rest) a w :=
  wpList_plain hgd fun _ hK => by
    obtain ⟨v', w', hr, hR⟩ := hr
    unfold Oper.wp execOp
    simp only [ho, resolve, invoke, builtin, Sem.run_bind, Sem.run_pure, Result.andThen_ok, List.map_toArray, List.map_cons, List.map_nil, hs, hx, hr]
    exact hK _ _ (h v' w' hR)
set_option maxRecDepth 1000000 in
set_option maxHeartbeats 8000000 in
theorem known_any (w : World) : Calls Try.prog 3 #[] w (One (.bool true) w) := by
  go_enter Try.func3, Try.ntmps3
  go_wp2_with fail
  refine (two_ok _).mono ?_
  rintro e w1 ⟨g1, rfl, r1, b1⟩
  have B1 : Hid (Below w.heap.size w w1) := b1
  have R1 : Hid (Rn w1 (some ⟨g1, 0, none⟩) tw) := r1
  clear r1 b1
  obtain ⟨G, hG⟩ : ∃ G, w1.heap.size + 1 + 1 + 1 + 1 + 1 + 1 + 1 + 1 + 1 + 1 = G := ⟨_, rfl⟩
  have hl := lits w1 g1 R1.out
  have hbl := bs B1.out (bal (alts_below LS w1) (.cells #[.slice (some ⟨g1, 0, none⟩) 2 2, .slice (some ⟨w1.heap.size, 0, none⟩) 2 2, .slice (some ⟨w1.heap.size + 1, 0, none⟩) 2 2, .slice (some ⟨w1.heap.size + 1 + 1, 0, none⟩) 2 2, .slice (some ⟨w1.heap.size + 1 + 1 + 1, 0, none⟩) 1 1, .slice (some ⟨w1.heap.size + 1 + 1 + 1 + 1, 0, none⟩) 1 1, .slice (some ⟨w1.heap.size + 1 + 1 + 1 + 1 + 1, 0, none⟩) 1 1, .slice (some ⟨w1.heap.size + 1 + 1 + 1 + 1 + 1 + 1, 0, none⟩) 1 1, .slice (some ⟨w1.heap.size + 1 + 1 + 1 + 1 + 1 + 1 + 1, 0, none⟩) 1 1, .slice (some ⟨w1.heap.size + 1 + 1 + 1 + 1 + 1 + 1 + 1 + 1, 0, none⟩) 1 1, .slice (some ⟨w1.heap.size + 1 + 1 + 1 + 1 + 1 + 1 + 1 + 1 + 1, 0, none⟩) 2 2, .slice none 0 0] 23))
  rw [hG] at hl
  obtain ⟨Ws, hWs⟩ : ∃ Ws, Ws = (alts w1 LS).alloc (.cells #[.slice (some ⟨g1, 0, none⟩) 2 2, .slice (some ⟨w1.heap.size, 0, none⟩) 2 2, .slice (some ⟨w1.heap.size + 1, 0, none⟩) 2 2, .slice (some ⟨w1.heap.size + 1 + 1, 0, none⟩) 2 2, .slice (some ⟨w1.heap.size + 1 + 1 + 1, 0, none⟩) 1 1, .slice (some ⟨w1.heap.size + 1 + 1 + 1 + 1, 0, none⟩) 1 1, .slice (some ⟨w1.heap.size + 1 + 1 + 1 + 1 + 1, 0, none⟩) 1 1, .slice (some ⟨w1.heap.size + 1 + 1 + 1 + 1 + 1 + 1, 0, none⟩) 1 1, .slice (some ⟨w1.heap.size + 1 + 1 + 1 + 1 + 1 + 1 + 1, 0, none⟩) 1 1, .slice (some ⟨w1.heap.size + 1 + 1 + 1 + 1 + 1 + 1 + 1 + 1, 0, none⟩) 1 1, .slice (some ⟨w1.heap.size + 1 + 1 + 1 + 1 + 1 + 1 + 1 + 1 + 1, 0, none⟩) 2 2, .slice none 0 0] 23) := ⟨_, rfl⟩
  rw [← hWs] at hl hbl
  have HLs : Hid (Lt Ws G) := hl
  have HBs : Hid (Below w.heap.size w Ws) := hbl
  have HWs : Hid (Ws = (alts w1 LS).alloc (.cells #[.slice (some ⟨g1, 0, none⟩) 2 2, .slice (some ⟨w1.heap.size, 0, none⟩) 2 2, .slice (some ⟨w1.heap.size + 1, 0, none⟩) 2 2, .slice (some ⟨w1.heap.size + 1 + 1, 0, none⟩) 2 2, .slice (some ⟨w1.heap.size + 1 + 1 + 1, 0, none⟩) 1 1, .slice (some ⟨w1.heap.size + 1 + 1 + 1 + 1, 0, none⟩) 1 1, .slice (some ⟨w1.heap.size + 1 + 1 + 1 + 1 + 1, 0, none⟩) 1 1, .slice (some ⟨w1.heap.size + 1 + 1 + 1 + 1 + 1 + 1, 0, none⟩) 1 1, .slice (some ⟨w1.heap.size + 1 + 1 + 1 + 1 + 1 + 1 + 1, 0, none⟩) 1 1, .slice (some ⟨w1.heap.size + 1 + 1 + 1 + 1 + 1 + 1 + 1 + 1, 0, none⟩) 1 1, .slice (some ⟨w1.heap.size + 1 + 1 + 1 + 1 + 1 + 1 + 1 + 1 + 1, 0, none⟩) 2 2, .slice none 0 0] 23)) := hWs
  clear R1 B1 hl hbl hWs
  go_wp2_with fail
  go_loopw [1, 86] (fun o i wr => ∃ (k : Nat) (v : Value), k ≤ 12 ∧ i = .int .i64 k ∧ v = o ∧ Hid (Ew wr Ws.heap.size v (es.take k)) ∧ Below Ws.heap.size Ws wr) (fun _ i _ => 12 - (iv i).toNat)
  case atStart => exact ⟨0, _, by omega, rfl, rfl, Ew.nil _ _, (by rw [HWs.out]; exact Below.refl _ _)⟩
  case round =>
    clear hG HWs
    obtain ⟨k, v, hk, rfl, rfl, HV, hb⟩ := hrel
    have HLt : Hid (Lt wr G) := HLs.out.below hb
    have B0 : Hid (Below Ws.heap.size Ws wr) := hb
    clear hb
    by_cases hlt : k < 12
    case' pos =>
      have ix1 : (0 : Int) ≤ (k : Int) := Int.natCast_nonneg k
      have ix2 : (k : Int) < 12 := by omega
      have hkl : k < LL.length := hlt
      obtain ⟨ao, c, hcell, hRn⟩ := HLt.out k hkl
      have HCk : Hid (Calls Try.prog 6 #[.slice ao (LL[k]).length c] wr fun e w' => e = .returned (.int .i64 (chk LL[k])) ∧ Below wr.heap.size wr w') := Check_ok hRn (LL_wf _ (List.getElem_mem hkl))
      have HE : Hid (es.take (k + 1) = es.take k ++ [chk LL[k]]) := by
        have e : es[k]? = some (chk LL[k]) := by rw [← es_ok, List.getElem?_map, List.getElem?_eq_getElem hkl]; rfl
        show es.take (k + 1) = es.take k ++ [chk LL[k]]
        rw [List.take_add_one, e]
        rfl
      have HLe : Hid ((es.take k).length ≤ 100000) := by
        show (es.take k).length ≤ 100000
        rw [List.length_take]
        omega
      clear hRn
      generalize (LL[k]).length = n at *
      generalize chk LL[k] = x at *
      go_wp2_with fail
      refine HCk.out.mono ?_
      rintro e w5 ⟨rfl, b5⟩
      have HV5 : Hid (Ew w5 Ws.heap.size v (es.take k)) := HV.out.below b5
      have B5 : Hid (Below Ws.heap.size Ws w5) := bs B0.out b5
      clear b5 hcell HCk
      go_wp2_with (at_builtin; refine wpList_apps rfl (.tmp 90) (.tmp 93) rfl _ _ rfl rfl (app_ew HV5.out x B5.out.size HLe.out _) ?_; rintro v2 w2 ⟨q2, b2⟩; have HR2 : Hid (Ew w2 Ws.heap.size v2 (es.take k ++ [x])) := q2; have HB2 : Hid (Below Ws.heap.size Ws w2) := b2 _ B5.out (Nat.le_refl _); clear q2 b2)
      go_roundw
      case rel => exact ⟨k + 1, v2, by omega, by go_num, rfl, by rw [HE.out]; exact HR2.out, HB2.out⟩
      case measure => simp [iv]; omega
    case' neg =>
      obtain rfl : k = 12 := by omega
      obtain ⟨g, c, e, hcell⟩ := (show Ew wr Ws.heap.size v es from HV.out).cell (by decide)
      have e' : v = .slice (some ⟨g, 0, none⟩) 12 c := e
      subst e'
      clear e
      have c0 : wr.cell? ⟨g, 0, none⟩ = some (.int .i64 0) := hcell 0 (by decide)
      have c1 : wr.cell? ⟨g, 1, none⟩ = some (.int .i64 2) := hcell 1 (by decide)
      have c2 : wr.cell? ⟨g, 2, none⟩ = some (.int .i64 2) := hcell 2 (by decide)
      have c3 : wr.cell? ⟨g, 3, none⟩ = some (.int .i64 0) := hcell 3 (by decide)
      have c4 : wr.cell? ⟨g, 4, none⟩ = some (.int .i64 2) := hcell 4 (by decide)
      have c5 : wr.cell? ⟨g, 5, none⟩ = some (.int .i64 2) := hcell 5 (by decide)
      have c6 : wr.cell? ⟨g, 6, none⟩ = some (.int .i64 2) := hcell 6 (by decide)
      have c7 : wr.cell? ⟨g, 7, none⟩ = some (.int .i64 0) := hcell 7 (by decide)
      have c8 : wr.cell? ⟨g, 8, none⟩ = some (.int .i64 2) := hcell 8 (by decide)
      have c9 : wr.cell? ⟨g, 9, none⟩ = some (.int .i64 2) := hcell 9 (by decide)
      have c10 : wr.cell? ⟨g, 10, none⟩ = some (.int .i64 2) := hcell 10 (by decide)
      have c11 : wr.cell? ⟨g, 11, none⟩ = some (.int .i64 0) := hcell 11 (by decide)
      clear hcell HV HLt hk hlt
      go_upto_region 7 with fail
      rename_i Kc hKc
      go_cut [4] from 96 to 165 (fun t4 wx => t4 = .bool true ∧ Below w.heap.size w wx)
      case first =>
        go_wp2_with fail
        go_meet
        case rel => exact ⟨rfl, bs HBs.out B0.out⟩
      case rest =>
        obtain ⟨rfl, hb9⟩ := hcut
        exact hKc _ _ (known_b w _ hb9 _ _ _ _ _ _ _ _ _ _ _ _ _ _ _ _ _ _ _ _ _ _ _ _ _ _ _ _ _ _ _ _ _ _ _ _ _ _ _ _ _ _ _ _ _ _ _ _ _ _ _ _ _ _ _ _ _ _ _ _ _ _ _ _ _ _ _ _ _ _ _ _ _ _ _ _ _ _ _ _ _ _ _ _ _ _ _ _ _ _ _ _ _ _ _ _ _ _ _ _ _ _ _ _ _ _ _ _ _ _ _ _ _ _ _ _ _ _ _ _ _ _ _ _ _ _ _ _ _ _ _ _ _ _ _ _ _ _ _ _ _ _ _ _ _ _ _ _ _ _ _ _ _ _ _ _ _ _ _ _ _ _ _ _ _ _ _ _ _ _ _ _ _ _ _ _ _ _ _ _ _ _ _ _ _ _ _ _ _ _ _ _ _ _ _ _ _ _ _ _ _ _ _ _ _ _ _ _ _ _ _ _ _ _ _ _ _ _ _ _ _ _ _ _ _ _ _ _ _ _ _ _ _ _ _ _ _ _ _ _ _ _ _ _ _ _ _ _ _ _ _ _ _ _ _ _ _ _ _ _ _ _ _ _ _ _ _ _ _ _ _ _ _ _ _ _ _ _ _ _ _ _ _ _ _ _ _ _ _ _ _ _ _ _ _ _ _ _ _ _ _ _ _ _ _ _ _ _ _ _ _ _ _ _ _ _ _ _ _ _ _ _ _ _ _ _ _ _ _ _ _ _ _ _ _ _ _ _ _ _ _ _ _ _ _ _ _ _ _ _ _ _ _ _ _ _ _ _ _ _ _ _ _ _ _ _ _ _ _ _ _ _ _ _ _ _ _ _ _ _ _ _ _ _ _ _ _ _ _ _ _ _ _ _ _ _ _ _ _ _ _ _ _ _ _ _ _ _ _ _ _ _)
end Go.Proofs.Ytmhfgfgiiinpjab.V
