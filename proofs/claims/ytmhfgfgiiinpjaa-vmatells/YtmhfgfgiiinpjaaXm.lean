/- Spans, the program's and the document's: regions without their permissions; no condition but those named. -/
import Derived.Test.YtmhfgfgiiinpjaaXl
import Derived.OwnWalk
import Derived.Laws.OwnMore
namespace Go.Proofs.Ytmhfgfgiiinpjaa.V
open Go.ChangeShapes Go.WideShapes Go.ChangeAt Go.RowKit
set_option linter.unusedVariables false
set_option maxRecDepth 8192

/-- A row of n spans in the call's own memory; the first of them are those of regions. -/
def Sw (w : World) (B : Nat) (v : Value) (n : Nat) (l : List Rg) : Prop := ∃ L, w.ownsRow B 31 2 v n L ∧ ∀ j (hj : j < l.length), L[j * 2]? = some (.int .i64 l[j].p) ∧ L[j * 2 + 1]? = some (.int .i64 l[j].n)
theorem Sw.below {w w' : World} {B : Nat} {v : Value} {n : Nat} {l : List Rg} (h : Sw w B v n l) (k : Below w.heap.size w w') : Sw w' B v n l := by
  obtain ⟨L, h1, h2⟩ := h
  exact ⟨L, row_eq h1 (fun g hg => k.block g (row_lt h1 g hg).2), h2⟩
theorem Sw.mono {w : World} {B B' : Nat} {v : Value} {n : Nat} {l : List Rg} (h : Sw w B v n l) (k : B' ≤ B) : Sw w B' v n l := by
  obtain ⟨L, h1, h2⟩ := h
  exact ⟨L, World.ownsRow.mono h1 k, h2⟩
theorem Sw.own {w : World} {B : Nat} {v : Value} {n : Nat} {l : List Rg} (h : Sw w B v n l) : ∀ g, v.ownBlock = some g → B ≤ g := fun g hg => by
  obtain ⟨L, h1, h2⟩ := h
  exact (row_lt h1 g hg).1
theorem Sw.form {w : World} {B : Nat} {v : Value} {n : Nat} {l : List Rg} (h : Sw w B v n l) : (v = .slice none 0 0 ∧ n = 0) ∨ ∃ g cap, v = .slice (some ⟨g, 0, none⟩) n cap ∧ B ≤ g ∧ g < w.heap.size ∧ (∀ j, j < n * 2 → (w.cell? ⟨g, j, none⟩).isSome = true ∧ w.frozen? ⟨g, j, none⟩ = false) ∧ ∀ j (hj : j < l.length), j < n → w.cell? ⟨g, j * 2, none⟩ = some (.int .i64 l[j].p) ∧ w.cell? ⟨g, j * 2 + 1, none⟩ = some (.int .i64 l[j].n) := by
  obtain ⟨L, ⟨h0, ⟨rfl, h2⟩ | ⟨g', cap, cur, rfl, hb, hw, hn, hm, hs, ht⟩⟩, hL⟩ := h
  · exact Or.inl ⟨rfl, h2⟩
  · refine Or.inr ⟨g', cap, rfl, hb, (Array.getElem?_eq_some_iff.1 hw).1, fun j hj => ⟨?_, by simp [World.frozen?, hw]⟩, fun j hj hjn => ⟨?_, ?_⟩⟩
    · rw [cell_of_row w g' j _ 31 (0, 0) hw, Array.getElem?_eq_getElem (by omega)]
      rfl
    · rw [cell_of_row w g' _ _ 31 (0, 0) hw, ← (hL j hj).1, ← ht, List.getElem?_take_of_lt (by omega), Array.getElem?_toList]
    · rw [cell_of_row w g' _ _ 31 (0, 0) hw, ← (hL j hj).2, ← ht, List.getElem?_take_of_lt (by omega), Array.getElem?_toList]
theorem Sw.set {w : World} {B g cap n : Nat} {l : List Rg} {k : Nat} (h : Sw w B (.slice (some ⟨g, 0, none⟩) n cap) n (l.take k)) (hk : k < l.length) (hn : k < n) : Sw ((w.setCell ⟨g, k * 2, none⟩ (.int .i64 l[k].p)).setCell ⟨g, k * 2 + 1, none⟩ (.int .i64 l[k].n)) B (.slice (some ⟨g, 0, none⟩) n cap) n (l.take (k + 1)) := by
  obtain ⟨L, hL, hf⟩ := h
  have h1 := (World.ownsRow.stored hL (k * 2) (.int .i64 l[k].p)).1
  have h2 := (World.ownsRow.stored h1 (k * 2 + 1) (.int .i64 l[k].n)).1
  have hlen : L.length = n * 2 := hL.1
  refine ⟨_, h2, fun j hj => ?_⟩
  rw [List.length_take] at hj
  simp only [List.getElem_take]
  by_cases hjk : j = k
  · subst hjk
    constructor
    · rw [List.getElem?_set_ne (by omega), List.getElem?_set_self (by omega)]
    · rw [List.getElem?_set_self (by rw [List.length_set]; omega)]
  · have := hf j (by rw [List.length_take]; omega)
    simp only [List.getElem_take] at this
    rw [List.getElem?_set_ne (by omega), List.getElem?_set_ne (by omega), List.getElem?_set_ne (by omega), List.getElem?_set_ne (by omega)]
    exact this
theorem Sw.nil (w : World) (B : Nat) : Sw w B (.slice none 0 0) 0 [] := ⟨[], World.ownsRow_nil _ _ _ _, fun j hj => by simp at hj⟩
theorem Sw.alloc {w : World} {B : Nat} {v : Value} {n : Nat} {l : List Rg} (h : Sw w B v n l) (o : Obj) : Sw (w.alloc o) B v n l := h.below (below1 w o)
/-- One more span behind a row. -/
theorem Sw.app {w : World} {B : Nat} {v : Value} {l : List Rg} {k : Nat} (h : Sw w B v k (l.take k)) (hk : k < l.length) (hk2 : k ≤ 5000) {g : Nat} (hc : w.cell? ⟨g, 0, none⟩ = some (.int .i64 l[k].p) ∧ w.cell? ⟨g, 1, none⟩ = some (.int .i64 l[k].n)) (hb : B ≤ w.heap.size) (ty : TypeId) :
    ∃ v' w', (Builtin.append_ #[44, 44] ty #[v, .slice (some ⟨g, 0, none⟩) 1 1]).run Try.prog w = .ok v' w' ∧ Sw w' B v' (k + 1) (l.take (k + 1)) ∧ w.grownBy w' v.ownBlock := by
  obtain ⟨i0, hi0, hz0, hz1, hz2⟩ := info_parts Try.infoSp
  obtain ⟨L, hL, hf⟩ := h
  have hlen : L.length = k * 2 := hL.1
  obtain ⟨v', w', hr, ho, hg, _⟩ := run_append_own w B 44 ty 31 i0 _ 2 16 Try.underlying44 hi0 hz0 hz1 hz2 rfl (by decide) v k L hL ⟨g, 0, none⟩ 1 1 [.int .i64 l[k].p, .int .i64 l[k].n] rfl (fun j u hu => by
    rcases j with _ | _ | j
    · rw [Addr.add_lit]; simp at hu; subst hu; exact hc.1
    · rw [Addr.add_lit]; simp at hu; subst hu; exact hc.2
    · simp at hu) (fun u hu => by simp at hu; rcases hu with rfl | rfl <;> rfl) (by unfold maxLen; omega) (by omega) hb
  refine ⟨v', w', hr, ⟨_, ho, fun j hj => ?_⟩, hg⟩
  rw [List.length_take] at hj
  simp only [List.getElem_take]
  by_cases hjk : j = k
  · subst hjk
    constructor
    · rw [List.getElem?_append_right (by omega), hlen, Nat.sub_self]; rfl
    · rw [List.getElem?_append_right (by omega), hlen, show j * 2 + 1 - j * 2 = 1 by omega]; rfl
  · have := hf j (by rw [List.length_take]; omega)
    simp only [List.getElem_take] at this
    rw [List.getElem?_append_left (by omega), List.getElem?_append_left (by omega)]
    exact this
theorem wpList_apps {w : World} {ops : Array Oper} {rest : List Oper} {o : Oper} {a : Act} {Q : Exit → Act → World → Prop} {R : Value → World → Prop} (hgd : o.guard = none) (s x : Operand)
    (ho : o.op = .call { callee := .builtin .append, args := #[s, x], argTypes := #[44, 44] }) (vs vx : Value) (hs : a.eval s = vs) (hx : a.eval x = vx)
    (hr : ∃ v' w', (Builtin.append_ #[44, 44] o.type #[vs, vx]).run Try.prog w = .ok v' w' ∧ R v' w') (h : ∀ v' w', R v' w' → wpList Try.prog ops Q rest (a.put o.dst v') w') : wpList Try.prog ops Q (o :: rest) a w :=
  wpList_plain hgd fun _ hK => by
    obtain ⟨v', w', hr, hR⟩ := hr
    unfold Oper.wp execOp
    simp only [ho, resolve, invoke, builtin, Sem.run_bind, Sem.run_pure, Result.andThen_ok, List.map_toArray, List.map_cons, List.map_nil, hs, hx, hr]
    exact hK _ _ (h v' w' hR)
def spV (l : List Rg) : List Rg := if chk l = 0 then l else []
/-- Spans and an error that a call answers; the spans are the call's own. -/
def Sa (w : World) (l : List Rg) (e : Ending) (w' : World) : Prop := ∃ v, e = .returned (.tuple #[v, .int .i64 (chk l)]) ∧ Sw w' w.heap.size v (spV l).length (spV l) ∧ Below w.heap.size w w'
theorem Sa.no {w w' : World} {l : List Rg} {c : Int} (h : Below w.heap.size w w') (hc : chk l = c) (h0 : c ≠ 0) : Sa w l (.returned (.tuple #[.slice none 0 0, .int .i64 c])) w' := by
  subst hc
  have e : spV l = [] := if_neg h0
  exact ⟨_, rfl, by rw [e]; exact Sw.nil _ _, h⟩
set_option maxHeartbeats 2000000 in
theorem Spans_ok {w : World} {ao : Option Addr} {cap : Nat} {l : List Rg} (h : Ri w ao cap l) :
    Calls Try.prog 26 #[.slice ao l.length cap] w (Sa w l) := by
  have HC : Hid (Calls Try.prog 10 #[.slice ao l.length cap] w fun e w' => e = .returned (.int .i64 (chk l)) ∧ Below w.heap.size w w') := h.check
  have bad : ∀ c : Int, c = 2 ∨ c = 3 → chk l = c → Calls Try.prog 26 #[.slice ao l.length cap] w (Sa w l) := fun c hc he => by
    have HE : Hid (chk l = c) := he
    rw [he] at HC
    clear h he
    rcases hc with rfl | rfl
    all_goals
      go_enter Try.func26, Try.ntmps26
      go_wp2_with fail
      refine HC.out.mono ?_
      rintro e w1 ⟨rfl, b1⟩
      have HB1 : Hid (Below w.heap.size w w1) := b1
      clear b1
      go_wp2
      go_ret2
      exact Sa.no HB1.out HE.out (by decide)
  rcases chk_cases l with he | he | he
  case inr.inl => exact bad 2 (Or.inl rfl) he
  case inr.inr => exact bad 3 (Or.inr rfl) he
  clear bad
  have hM : May l := chk_may.1 he
  have HE : Hid (chk l = 0) := he
  have HSp : Hid (spV l = l) := if_pos he
  have HR : Hid (Rn w ao l) := h.rn
  have hl : l.length ≤ 1024 := hM.1
  obtain ⟨i0, hi0, hz0, hz1, hz2⟩ := info_parts Try.infoSp
  rw [he] at HC
  clear h hM he
  go_enter Try.func26, Try.ntmps26
  go_wp2_with fail
  refine HC.out.mono ?_
  rintro e w1 ⟨rfl, b1⟩
  have HB1 : Hid (Below w.heap.size w w1) := b1
  clear b1
  go_wp2_with (at_make; refine wpList_make_full _ rfl _ _ 44 rfl w.heap.size 31 i0 _ 2 Try.underlying44 hi0 hz0 hz1 _ _ _ _ l.length rfl rfl rfl rfl (by rw [hz2]; omega) (by unfold maxLen; omega) HB1.out.size ?_; intro w2 ho2 hg2; have HS2 : Hid (Sw w2 w.heap.size (.slice (some ⟨w1.heap.size, 0, none⟩) l.length l.length) l.length (l.take 0)) := ⟨_, ho2, fun j hj => by simp at hj⟩; have HB2 : Hid (Below w.heap.size w w2) := HB1.out.grown hg2 HB1.out.size (fun k e => by cases e); clear ho2 hg2)
  clear hi0 hz0 hz1 hz2
  go_loopw [18] (fun i wr => ∃ k : Nat, k ≤ l.length ∧ i = .int .i64 k ∧ Hid (Sw wr w.heap.size (.slice (some ⟨w1.heap.size, 0, none⟩) l.length l.length) l.length (l.take k)) ∧ Below w.heap.size w wr) (fun i _ => l.length - (iv i).toNat)
  case atStart => exact ⟨0, by omega, rfl, HS2.out, HB2.out⟩
  case round =>
    obtain ⟨k, hk, rfl, HS, hb⟩ := hrel
    have HB : Hid (Below w.heap.size w wr) := hb
    have ix1 : (0 : Int) ≤ (k : Int) := Int.natCast_nonneg k
    by_cases hlt : k < l.length
    case neg =>
      obtain rfl : k = l.length := by omega
      have HF : Hid (Sw wr w.heap.size (.slice (some ⟨w1.heap.size, 0, none⟩) l.length l.length) l.length l) := by have := HS.out; rwa [List.take_length] at this
      clear hb
      go_wp2
      go_ret2
      exact ⟨_, by rw [HE.out]; rfl, by rw [HSp.out]; exact HF.out, HB.out⟩
    case pos =>
      obtain ⟨b, off, rfl, hbl, hc⟩ := HR.out.idx hlt
      obtain ⟨c0, c1, c2⟩ := hc wr hb
      have ix2 : (k : Int) < (l.length : Int) := Int.ofNat_lt.2 hlt
      have HSt : Hid (∀ W, Below wr.heap.size wr W → Sw ((W.setCell ⟨w1.heap.size, k * 2, none⟩ (.int .i64 l[k].p)).setCell ⟨w1.heap.size, k * 2 + 1, none⟩ (.int .i64 l[k].n)) w.heap.size (.slice (some ⟨w1.heap.size, 0, none⟩) l.length l.length) l.length (l.take (k + 1)) ∧ Below w.heap.size w ((W.setCell ⟨w1.heap.size, k * 2, none⟩ (.int .i64 l[k].p)).setCell ⟨w1.heap.size, k * 2 + 1, none⟩ (.int .i64 l[k].n)) ∧ W.there w1.heap.size (k * 2) 2) := fun W hW => by
        have hS := HS.out.below hW
        have hWb : Below w.heap.size w W := HB.out.trans (hW.mono HB.out.size)
        refine ⟨hS.set hlt hlt, ((hWb.setCell HB1.out.size _).setCell HB1.out.size _), fun j hj => ?_⟩
        rcases hS.form with ⟨e, _⟩ | ⟨g, cp, e, _, _, hq, _⟩
        · cases e
        · cases e
          exact hq (k * 2 + j) (by omega)
      have CPg : Hid (∀ W, Calls Try.prog 39 #[.agg #[.int .i64 l[k].p, .int .i64 l[k].n, .int .u8 l[k].m]] W fun e w' => e = .returned (.agg #[.int .i64 l[k].p, .int .i64 l[k].n]) ∧ Below W.heap.size W w') := fun W => pages_any _ _ _ W
      have HBo : Hid (∀ o : Obj, Below wr.heap.size wr (wr.alloc o)) := fun o => below1 wr o
      clear hc hb
      generalize l[k] = r at *
      obtain ⟨p, n, m⟩ := r
      simp only at c0 c1 c2
      go_wp2_with fail
      refine (CPg.out _).mono ?_
      rintro e w4 ⟨rfl, b4⟩
      obtain ⟨s1, s2, s3⟩ := HSt.out w4 (bs (HBo.out _) b4)
      have HT : Hid (w4.there w1.heap.size (k * 2) (#[.int .i64 p, .int .i64 n] : Array Value).size) := s3
      have HN : Hid (Sw (w4.setCells w1.heap.size (k * 2) [.int .i64 p, .int .i64 n]) w.heap.size (.slice (some ⟨w1.heap.size, 0, none⟩) l.length l.length) l.length (l.take (k + 1)) ∧ Below w.heap.size w (w4.setCells w1.heap.size (k * 2) [.int .i64 p, .int .i64 n])) := ⟨s1, s2⟩
      have HZ : Hid ((#[.int .i64 p, .int .i64 n] : Array Value).all (·.oneCell') = true) := by unfold Hid; simp [Value.oneCell']
      clear s1 s2 s3 b4 c0 c1 c2
      go_wp2_with (refine wpList_store_mid rfl 31 (.tmp 27) (.tmp 26) rfl w1.heap.size (k * 2) #[.int .i64 p, .int .i64 n] rfl rfl HT.out Try.sizeSp HZ.out ?_)
      go_roundw
      case rel => exact ⟨k + 1, by omega, by go_num, HN.out.1, HN.out.2⟩
      case measure => simp [iv]; omega
theorem step_apps {w : World} {ops : Array Oper} {o : Oper} {a : Act} {K : Act → World → Prop} {Q : Exit → Act → World → Prop} {E : Prop} (hgd : o.guard = none) (s x : Operand)
    (ho : o.op = .call { callee := .builtin .append, args := #[s, x], argTypes := #[44, 44] }) {vs vx : Value} {R : Value → World → Prop} (hs : a.eval s = vs) (hx : a.eval x = vx)
    (hr : ∃ v' w', (Builtin.append_ #[44, 44] o.type #[vs, vx]).run Try.prog w = .ok v' w' ∧ R v' w') (hK : ∀ v' w', R v' w' → K (a.put o.dst v') w') :
    if Region.wanted o (yielded ops a.tmps) = true then Oper.wp Try.prog o a w K Q else E := by
  have hw : Region.wanted o (yielded ops a.tmps) = true := by simp [Region.wanted, hgd]
  rw [if_pos hw]
  obtain ⟨v', w', hr, hR⟩ := hr
  unfold Oper.wp execOp
  simp only [ho, resolve, invoke, builtin, Sem.run_bind, Sem.run_pure, Result.andThen_ok, List.map_toArray, List.map_cons, List.map_nil, hs, hx, hr]
  exact hK _ _ hR
set_option maxHeartbeats 2000000 in
theorem Spans_r {w : World} {ao : Option Addr} {cap : Nat} {l : List Rg} (h : Ri w ao cap l) :
    Calls Try.prog 27 #[.slice ao l.length cap] w (Sa w l) := by
  have HC : Hid (Calls Try.prog 11 #[.slice ao l.length cap] w fun e w' => e = .returned (.int .i64 (chk l)) ∧ Below w.heap.size w w') := h.check_r
  have bad : ∀ c : Int, c = 2 ∨ c = 3 → chk l = c → Calls Try.prog 27 #[.slice ao l.length cap] w (Sa w l) := fun c hc he => by
    have HE : Hid (chk l = c) := he
    rw [he] at HC
    clear h he
    rcases hc with rfl | rfl
    all_goals
      go_enter Try.func27, Try.ntmps27
      go_wp2_with fail
      refine HC.out.mono ?_
      rintro e w1 ⟨rfl, b1⟩
      have HB1 : Hid (Below w.heap.size w w1) := b1
      clear b1
      go_wp2
      go_ret2
      exact Sa.no HB1.out HE.out (by decide)
  rcases chk_cases l with he | he | he
  case inr.inl => exact bad 2 (Or.inl rfl) he
  case inr.inr => exact bad 3 (Or.inr rfl) he
  clear bad
  have hM : May l := chk_may.1 he
  have HE : Hid (chk l = 0) := he
  have HSp : Hid (spV l = l) := if_pos he
  have HR : Hid (Rn w ao l) := h.rn
  have hl : l.length ≤ 1024 := hM.1
  rw [he] at HC
  clear h hM he
  go_enter Try.func27, Try.ntmps27
  go_wp2_with fail
  refine HC.out.mono ?_
  rintro e w1 ⟨rfl, b1⟩
  have HB1 : Hid (Below w.heap.size w w1) := b1
  clear b1
  go_wp2_with fail
  go_loopw [5, 6] (fun o i wr => ∃ (k : Nat) (v : Value), k ≤ l.length ∧ i = .int .i64 k ∧ v = o ∧ Hid (Sw wr w.heap.size v k (l.take k)) ∧ Below w.heap.size w wr) (fun _ i _ => l.length - (iv i).toNat)
  case atStart => exact ⟨0, _, by omega, rfl, rfl, Sw.nil _ _, HB1.out⟩
  case round =>
    obtain ⟨k, v, hk, rfl, rfl, HS, hb⟩ := hrel
    have HB : Hid (Below w.heap.size w wr) := hb
    have ix1 : (0 : Int) ≤ (k : Int) := Int.natCast_nonneg k
    by_cases hlt : k < l.length
    case neg =>
      obtain rfl : k = l.length := by omega
      have HF : Hid (Sw wr w.heap.size v l.length l) := by have := HS.out; rwa [List.take_length] at this
      clear hb
      go_wp2
      go_ret2
      exact ⟨_, by rw [HE.out]; rfl, by rw [HSp.out]; exact HF.out, HB.out⟩
    case pos =>
      obtain ⟨b, off, rfl, hbl, hc⟩ := HR.out.idx hlt
      obtain ⟨c0, c1, c2⟩ := hc wr hb
      have ix2 : (k : Int) < (l.length : Int) := Int.ofNat_lt.2 hlt
      have HC2 : Hid (∀ W, Below wr.heap.size wr W → W.cell? ⟨b, off + k * 3, none⟩ = some (.int .i64 l[k].p) ∧ W.cell? ⟨b, off + k * 3 + 1, none⟩ = some (.int .i64 l[k].n)) := fun W q => ⟨(hc W (HB.out.trans (q.mono HB.out.size))).1, (hc W (HB.out.trans (q.mono HB.out.size))).2.1⟩
      have HAp : Hid (∀ W ty, Below wr.heap.size wr W → ∃ v' w', (Builtin.append_ #[44, 44] ty #[v, .slice (some ⟨W.heap.size, 0, none⟩) 1 1]).run Try.prog (W.alloc (.cells #[.int .i64 l[k].p, .int .i64 l[k].n] 31)) = .ok v' w' ∧ Sw w' w.heap.size v' (k + 1) (l.take (k + 1)) ∧ Below w.heap.size w w' ∧ ∀ j, w'.cell? ⟨b, j, none⟩ = wr.cell? ⟨b, j, none⟩) := fun W ty hW => by
        have hWb : Below w.heap.size w (W.alloc (.cells #[.int .i64 l[k].p, .int .i64 l[k].n] 31)) := (HB.out.trans (hW.mono HB.out.size)).alloc (Nat.le_trans HB.out.size hW.size) _
        obtain ⟨v', w', h1, h2, h3⟩ := ((HS.out.below hW).alloc (.cells #[.int .i64 l[k].p, .int .i64 l[k].n] 31)).app hlt (by omega) ⟨World.cell?_alloc_new W _ _ 0, World.cell?_alloc_new W _ _ 1⟩ hWb.size ty
        have hF : Below w.heap.size w w' := hWb.grown h3 hWb.size (fun q e => HS.out.own q e)
        exact ⟨v', w', h1, h2, hF, fun j => (hF.cell (p := ⟨b, j, none⟩) hbl).trans (HB.out.cell (p := ⟨b, j, none⟩) hbl).symm⟩
      have HCr : Hid (wr.cell? ⟨b, off + k * 3, none⟩ = some (.int .i64 l[k].p) ∧ wr.cell? ⟨b, off + k * 3 + 1, none⟩ = some (.int .i64 l[k].n)) := ⟨c0, c1⟩
      clear hc hb c0 c1 c2
      generalize l[k] = r at *
      obtain ⟨p, n, m⟩ := r
      simp only at HCr HC2 HAp
      go_wp2_with fail
      go_region_held_law (fun W => W.cell? ⟨b, off + k * 3, none⟩ = some (.int .i64 p) ∧ W.cell? ⟨b, off + k * 3 + 1, none⟩ = some (.int .i64 n))
        (first | exact HCr.out | exact HC2.out _ (below1 _ _) | exact HC2.out _ ((below1 _ _).drew) | exact HC2.out _ ((Below.refl _ _).drew) | exact HC2.out _ (bal ((Below.refl _ _).drew) _) | exact HQ.out)
        (first | (refine step_apps rfl (.tmp 18) (.tmp 30) rfl rfl rfl (by first | exact HAp.out _ _ (Below.refl _ _) | exact HAp.out _ _ ((Below.refl _ _).drew)) ?_; rintro v2 w2 ⟨q1, q2, q3⟩; have HS2 : Hid (Sw w2 w.heap.size v2 (k + 1) (l.take (k + 1))) := q1; have HB2 : Hid (Below w.heap.size w w2) := q2; have HQ : Hid (w2.cell? ⟨b, off + k * 3, none⟩ = some (.int .i64 p) ∧ w2.cell? ⟨b, off + k * 3 + 1, none⟩ = some (.int .i64 n)) := ⟨(q3 _).trans HCr.out.1, (q3 _).trans HCr.out.2⟩; clear q1 q2 q3))
      all_goals (simp only [List.getElem_toArray, List.getElem_cons_succ, List.getElem_cons_zero, List.set_cons_zero, List.set_cons_succ])
      go_wp2
      go_roundw
      case rel => exact ⟨k + 1, v2, by omega, by go_num, rfl, HS2.out, HB2.out⟩
      case measure => simp [iv]; omega
end Go.Proofs.Ytmhfgfgiiinpjaa.V
