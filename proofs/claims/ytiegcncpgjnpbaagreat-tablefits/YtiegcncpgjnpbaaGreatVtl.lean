/- What List tells, as a plain function of the words: the pages that have an entry, with it. -/
import Derived.Test.YtiegcncpgjnpbaaGreatVte
namespace Go.Proofs.YtiegcncpgjnpbaaGreat.Pg
open P E Go.ChangeShapes Go.WideShapes Go.ChangeAt Go.RowKit
set_option linter.unusedVariables false
set_option maxRecDepth 8192

def le (W : Nat → Nat → Int) (f k n : Nat) : List (Nat × Int) := (List.range n).flatMap fun i => if W f i = 0 then [] else [(k * 32 + i, W f i)]
theorem le_succ (W : Nat → Nat → Int) (f k n : Nat) : le W f k (n + 1) = le W f k n ++ (if W f n = 0 then [] else [(k * 32 + n, W f n)]) := by
  simp [le, List.range_succ]
theorem le_len (W : Nat → Nat → Int) (f k : Nat) : ∀ n, (le W f k n).length ≤ n
  | 0 => by simp [le]
  | n + 1 => by
    rw [le_succ, List.length_append]
    have := le_len W f k n
    split <;> simp <;> omega
theorem mem_le {W : Nat → Nat → Int} {f k n : Nat} {x : Nat × Int} : x ∈ le W f k n ↔ ∃ i, i < n ∧ W f i ≠ 0 ∧ x = (k * 32 + i, W f i) := by
  simp only [le, List.mem_flatMap, List.mem_range]
  constructor
  · rintro ⟨i, hi, h⟩
    by_cases e : W f i = 0
    · rw [if_pos e] at h; simp at h
    · rw [if_neg e] at h
      exact ⟨i, hi, e, List.mem_singleton.1 h⟩
  · rintro ⟨i, hi, e, h⟩
    exact ⟨i, hi, by rw [if_neg e]; exact List.mem_singleton.2 h⟩
def lv (W : Nat → Nat → Int) (r : Nat) (x : Nat × Nat) : List (Nat × Int) := if x.1 = 3 then le W ((tb W r x.1 x.2).getD 0) x.2 32 else []
theorem lv_len (W : Nat → Nat → Int) (r : Nat) (x : Nat × Nat) : (lv W r x).length ≤ 32 := by
  unfold lv
  split
  · exact le_len _ _ _ _
  · simp
def lsL (W : Nat → Nat → Int) (r : Nat) (L : List (Nat × Nat)) : List (Nat × Int) := L.flatMap (lv W r)
theorem lsL_snoc (W : Nat → Nat → Int) (r : Nat) (L : List (Nat × Nat)) (x : Nat × Nat) : lsL W r (L ++ [x]) = lsL W r L ++ lv W r x := by simp [lsL]
theorem lsL_len (W : Nat → Nat → Int) (r : Nat) : ∀ L : List (Nat × Nat), (lsL W r L).length ≤ L.length * 32
  | [] => by simp [lsL]
  | x :: L => by
    have h1 := lsL_len W r L
    have h2 := lv_len W r x
    rw [lsL, List.flatMap_cons, List.length_append, List.length_cons]
    rw [lsL] at h1
    omega
def lst (W : Nat → Nat → Int) (r : Nat) : List (Nat × Int) := lsL W r (ndr W r)
theorem mem_lst {W : Nat → Nat → Int} {r : Nat} {x : Nat × Int} : x ∈ lst W r ↔ pw W r x.1 = x.2 ∧ x.2 ≠ 0 := by
  simp only [lst, lsL, List.mem_flatMap]
  constructor
  · rintro ⟨y, hy, hx⟩
    unfold lv at hx
    by_cases e : y.1 = 3
    · rw [if_pos e] at hx
      obtain ⟨i, hi, h0, rfl⟩ := mem_le.1 hx
      obtain ⟨f, hf⟩ := Option.ne_none_iff_exists'.1 (ndr_mem.1 hy).2
      rw [e] at hf h0 ⊢
      rw [hf, Option.getD_some] at h0 ⊢
      refine ⟨?_, h0⟩
      show pw W r (y.2 * 32 + i) = W f i
      have e1 : (y.2 * 32 + i) / 32 = y.2 := by omega
      have e2 : (y.2 * 32 + i) % 32 = i := by omega
      rw [pw_some (f := f) (by rw [e1]; exact hf), e2]
    · rw [if_neg e] at hx; simp at hx
  · rintro ⟨h1, h2⟩
    cases hf : tb W r 3 (x.1 / 32) with
    | none => rw [pw_none hf] at h1; exact absurd h1.symm h2
    | some f =>
      rw [pw_some hf] at h1
      refine ⟨(3, x.1 / 32), ndr_mem.2 ⟨Nat.le_refl _, by show tb W r 3 (x.1 / 32) ≠ none; rw [hf]; exact nofun⟩, ?_⟩
      unfold lv
      rw [if_pos rfl]
      show x ∈ le W ((tb W r 3 (x.1 / 32)).getD 0) (x.1 / 32) 32
      rw [hf, Option.getD_some]
      refine mem_le.2 ⟨x.1 % 32, Nat.mod_lt _ (by decide), by rw [h1]; exact h2, ?_⟩
      rw [h1]
      exact Prod.ext (by show x.1 = x.1 / 32 * 32 + x.1 % 32; omega) rfl
theorem lst_apart (W : Nat → Nat → Int) (r : Nat) : (lst W r).Pairwise (fun a b => a.1 ≠ b.1) := by
  rw [lst, lsL, List.pairwise_flatMap]
  refine ⟨fun x hx => ?_, ?_⟩
  · unfold lv
    split
    · rw [le, List.pairwise_flatMap]
      refine ⟨fun i _ => ?_, ?_⟩
      · split
        · exact List.Pairwise.nil
        · exact List.pairwise_singleton _ _
      · refine List.Pairwise.imp ?_ (List.pairwise_lt_range (n := 32))
        intro i j hij a ha b hb
        split at ha
        · simp at ha
        · split at hb
          · simp at hb
          · rw [List.mem_singleton.1 ha, List.mem_singleton.1 hb]
            show x.2 * 32 + i ≠ x.2 * 32 + j
            omega
    · exact List.Pairwise.nil
  · refine List.Pairwise.imp ?_ (ndr_nodup W r)
    intro x y hxy a ha b hb
    unfold lv at ha hb
    split at ha
    · rename_i e1
      split at hb
      · rename_i e2
        obtain ⟨i, hi, _, rfl⟩ := mem_le.1 ha
        obtain ⟨j, hj, _, rfl⟩ := mem_le.1 hb
        show x.2 * 32 + i ≠ y.2 * 32 + j
        intro e
        exact hxy (Prod.ext (e1.trans e2.symm) (by omega))
      · simp at hb
    · simp at ha
theorem nodup_of_apart {l : List (Nat × Int)} (h : l.Pairwise (fun a b => a.1 ≠ b.1)) : l.Nodup := List.Pairwise.imp (fun hab e => hab (by rw [e])) h
theorem lst_len {W : Nat → Nat → Int} {r : Nat} {l : List (Nat × Int)} (h : l.Pairwise (fun a b => a.1 ≠ b.1)) (hm : ∀ x : Nat × Int, x ∈ l ↔ pw W r x.1 = x.2 ∧ x.2 ≠ 0) : l.length = (lst W r).length :=
  ((List.perm_ext_iff_of_nodup (nodup_of_apart h) (nodup_of_apart (lst_apart W r))).2 (fun x => (hm x).trans mem_lst.symm)).length_eq
def mc (x : Nat × Int) : List Value := .int .i64 (x.1 : Nat) :: ec x.2
def enM (l : List (Nat × Int)) : List Value := l.flatMap mc
theorem enM_snoc (l : List (Nat × Int)) (x : Nat × Int) : enM (l ++ [x]) = enM l ++ mc x := by simp [enM]
theorem enM_get : ∀ (l : List (Nat × Int)) (i : Nat) (x : Nat × Int), l[i]? = some x → ∀ j, j < 8 → (enM l)[i * 8 + j]? = (mc x)[j]?
  | [], i, x, h, _, _ => by simp at h
  | y :: l, 0, x, h, j, hj => by
    obtain rfl : y = x := by simpa using h
    rw [enM, List.flatMap_cons, Nat.zero_mul, Nat.zero_add, List.getElem?_append_left (by simpa [mc, ec] using hj)]
  | y :: l, i + 1, x, h, j, hj => by
    rw [enM, List.flatMap_cons, List.getElem?_append_right (by show 8 ≤ (i + 1) * 8 + j; omega)]
    show (enM l)[(i + 1) * 8 + j - 8]? = _
    rw [show (i + 1) * 8 + j - 8 = i * 8 + j by omega]
    exact enM_get l i x (by simpa using h) j hj
theorem ez_word {v : Int} (h0 : 0 ≤ v) (h1 : v < 18446744073709551616) (hm : N.mayW v = true) : N.eqE (N.fb v 1) (N.fb v 2) (N.fb v 4) (N.fb v 8) (N.fb v 16) (N.fb v 32) (v / 256) false false false false false false 0 = decide (v = 0) := by
  rw [Bool.eq_iff_iff, decide_eq_true_eq]
  constructor
  · intro h
    obtain ⟨e1, e2, e3, e4, e5, e6, e7⟩ := N.eqE_eq h
    unfold N.mayW at hm
    rw [Bool.and_eq_true, decide_eq_true_eq] at hm
    have := N.word_back v h0 h1 hm.1
    rw [e1, e2, e3, e4, e5, e6, e7] at this
    rw [← this]
    decide
  · rintro rfl
    decide
end Go.Proofs.YtiegcncpgjnpbaaGreat.Pg
namespace Go.Proofs.YtiegcncpgjnpbaaGreat.Pg
open P E Go.ChangeShapes Go.WideShapes Go.ChangeAt Go.RowKit
set_option linter.unusedVariables false
set_option maxRecDepth 8192

theorem Tryz.infoM : (Tryz.prog.info? 76).map (fun i => (i.zero, i.size, i.bytes)) = some (some (.agg #[.int .i64 0, .bool false, .bool false, .bool false, .bool false, .bool false, .bool false, .int .i64 0]), 8, 24) := by kernel_rfl
def Mr (w : World) (base : Nat) (v : Value) (l : List (Nat × Int)) : Prop := w.ownsRow base 76 8 v l.length (enM l)
theorem Mr.own_lt {w : World} {base : Nat} {v : Value} {l : List (Nat × Int)} (h : Mr w base v l) : ∀ g, v.ownBlock = some g → base ≤ g ∧ g < w.heap.size := row_lt h
theorem Mr.below {w w' : World} {base : Nat} {v : Value} {l : List (Nat × Int)} (h : Mr w base v l) (b : Below w.heap.size w w') : Mr w' base v l := row_eq h (fun g hg => b.block g (h.own_lt g hg).2)
theorem mr_nil (w : World) (base : Nat) : Mr w base (.slice none 0 0) [] := World.ownsRow_nil _ _ _ _
theorem grown_below {w w' : World} {v : Value} {B : Nat} {w0 : World} (g : w.grownBy w' v.ownBlock) (b : Below B w0 w) (h : ∀ x, v.ownBlock = some x → B ≤ x) (hB : B ≤ w.heap.size) : Below B w0 w' := b.trans (C.below_of g _ hB (fun x hx => h x hx))
theorem Mr.push {w' : World} {base : Nat} {l : List (Nat × Int)} {x : Nat × Int} {g cap : Nat} {M : List Value} (hM : mc x = M) (h : w'.ownsRow base 76 8 (.slice (some ⟨g, 0, none⟩) (l.length + 1) cap) (l.length + 1) (enM l ++ M)) : Mr w' base (.slice (some ⟨g, 0, none⟩) (l.length + 1) cap) (l ++ [x]) := by
  unfold Mr
  rw [enM_snoc, List.length_append, List.length_singleton, hM]
  exact h
theorem cell_new (w : World) (L : List Value) (t : TypeId) (H : Nat) (hH : w.heap.size = H) : ∀ j u, L[j]? = some u → (w.alloc (.cells L.toArray t)).cell? ((⟨H, 0, none⟩ : Addr).add j) = some u := cell_four_new w L t H hH
set_option maxHeartbeats 2000000 in
theorem List_ok {P : Par} (hP : P.Ok) {R : Nat → Prop} {S : E.Sc × Us} (K : Ok P R S) {h : Hw} (hN : P.N * P.C ≤ h.n) {r : Nat} (hr : R r) {w w1 : World} {X : Nat → Prop} {t c p : Nat} {m : Nat → Option Nat} (T : Tv w X t c p h P S m w1) (hm : m r ≠ none) :
    Calls Tryz.prog 31 #[.pointer (some ⟨t, 0, none⟩), .int .i64 (r : Nat)] w1 fun e w' => ∃ v, e = .returned (.tuple #[v, .int .i64 0]) ∧ Mr w' w1.heap.size v (lst (wd S.1.m) r) ∧ Below w1.heap.size w1 w' := by
  have HC : Hid (Calls _ _ _ _ _) := check_ok T r hm
  have hln := ndr_le (wd S.1.m) r
  have CN : Hid (∀ w2, Below w1.heap.size w1 w2 → Calls Tryz.prog 73 #[.pointer (some ⟨t, 0, none⟩), .int .i64 (r : Nat)] w2 fun e w' => ∃ g cap, e = .returned (.slice (some ⟨g, 0, none⟩) (ndr (wd S.1.m) r).length cap) ∧ Below w2.heap.size w2 w' ∧ w1.heap.size ≤ g ∧ g < w'.heap.size ∧ ∀ i x, (ndr (wd S.1.m) r)[i]? = some x → ∀ W' : World, W'.heap[g]? = w'.heap[g]? → W'.cell? ⟨g, i * 4, none⟩ = some (.int .i64 ((tb (wd S.1.m) r x.1 x.2).getD 0 : Nat)) ∧ W'.cell? ⟨g, i * 4 + 1, none⟩ = some (.int .i64 ((3 - x.1 : Nat) : Int)) ∧ W'.cell? ⟨g, i * 4 + 2, none⟩ = some (.int .i64 (x.2 : Nat)) ∧ W'.cell? ⟨g, i * 4 + 3, none⟩ = some (.int .u64 (abv (wd S.1.m) r x : Nat))) := fun w2 h2 => by
    refine (nodes_ok hP K hN hr (T.below h2)).mono ?_
    rintro e w' ⟨v, rfl, ho, hb⟩
    obtain ⟨g, cap, rfl, q1, q2, q3⟩ := row_nodes ho (ndr_pos _ _)
    exact ⟨g, cap, rfl, hb, Nat.le_trans h2.size q1, q2, q3⟩
  have CE : Hid (∀ k f W, Below w1.heap.size w1 W → tb (wd S.1.m) r 3 k = some f → Calls Tryz.prog 80 #[.pointer (some ⟨t, 0, none⟩), .int .i64 (f : Nat)] W fun e w' => e = .returned (.agg (es (wd S.1.m) f 32).toArray) ∧ Below W.heap.size W w') := fun k f W hW hf => entries_ok (T.below hW) (K.lt hP hN hr (Nat.le_refl 3) hf).1 (fun i hi => K.may hP hr (Nat.le_refl 3) hf hi)
  have HM : Hid (∀ (j : Nat) (x : Nat × Nat), (ndr (wd S.1.m) r)[j]? = some x → x.1 ≤ 3 ∧ ∃ f, tb (wd S.1.m) r x.1 x.2 = some f) := fun j x hx => by
    have := ndr_mem.1 (List.mem_of_getElem? hx)
    exact ⟨this.1, Option.ne_none_iff_exists'.1 this.2⟩
  have HE : Hid (∀ k f i, tb (wd S.1.m) r 3 k = some f → i < 32 → ∀ W, (binOp .neq 38 (.agg (ec (wd S.1.m f i)).toArray) (.agg #[.bool false, .bool false, .bool false, .bool false, .bool false, .bool false, .int .i64 0])).run Tryz.prog W = .ok (.bool (decide (wd S.1.m f i ≠ 0))) W) := fun k f i hf hi W => by
    obtain ⟨q1, q2, q3⟩ := K.fo.lf r hr k f hf i hi
    show (binOp .neq 38 (.agg #[.bool (N.fb (wd S.1.m f i) 1), .bool (N.fb (wd S.1.m f i) 2), .bool (N.fb (wd S.1.m f i) 4), .bool (N.fb (wd S.1.m f i) 8), .bool (N.fb (wd S.1.m f i) 16), .bool (N.fb (wd S.1.m f i) 32), .int .i64 ((wd S.1.m f i) / 256)]) (.agg #[.bool false, .bool false, .bool false, .bool false, .bool false, .bool false, .int .i64 0])).run Tryz.prog W = _
    rw [N.ne_run, ez_word q2 q3 q1]
    simp
  have HK3 : Hid (∀ k f, tb (wd S.1.m) r 3 k = some f → k < 32768) := fun k f hf => tb_lt hf
  unfold lst
  clear T K
  generalize hLL : ndr (wd S.1.m) r = L at *
  clear hLL
  generalize wd S.1.m = V at *
  go_enter Tryz.func31, Tryz.ntmps31
  go_wp2_with fail
  refine HC.out.mono ?_
  rintro e w2 ⟨rfl, hb⟩
  have HB2 : Hid (Below w1.heap.size w1 w2) := hb
  clear hb
  go_wp2_with fail
  refine (CN.out _ HB2.out).mono ?_
  rintro e w3 ⟨g, cap, rfl, hb3, hg1, hg2, hcl⟩
  have HB3 : Hid (Below w1.heap.size w1 w3) := HB2.out.trans (hb3.mono HB2.out.size)
  have HCL : Hid (∀ i x, L[i]? = some x → ∀ W' : World, W'.heap[g]? = w3.heap[g]? → W'.cell? ⟨g, i * 4, none⟩ = some (.int .i64 ((tb V r x.1 x.2).getD 0 : Nat)) ∧ W'.cell? ⟨g, i * 4 + 1, none⟩ = some (.int .i64 ((3 - x.1 : Nat) : Int)) ∧ W'.cell? ⟨g, i * 4 + 2, none⟩ = some (.int .i64 (x.2 : Nat)) ∧ W'.cell? ⟨g, i * 4 + 3, none⟩ = some (.int .u64 (abv V r x : Nat))) := hcl
  clear hb3 hcl HC CN HB2
  go_wp2_with fail
  go_loopw [7, 22] (fun l i wr => ∃ (j : Nat) (vv : Value), vv = l ∧ j ≤ L.length ∧ i = .int .i64 j ∧ Below w3.heap.size w3 wr ∧ Mr wr w3.heap.size vv (lsL V r (L.take j))) (fun _ i _ => L.length - (D.iv i).toNat)
  case atStart => exact ⟨0, _, rfl, by omega, rfl, Below.refl _ _, mr_nil _ _⟩
  case round =>
    obtain ⟨j, l0, hvv, hj, rfl, hbr, hmr⟩ := hrel
    subst hvv
    have HBr : Hid (Below w3.heap.size w3 wr) := hbr
    have HMr : Hid (Mr wr w3.heap.size l0 (lsL V r (L.take j))) := hmr
    clear hbr hmr
    by_cases hlt : j < L.length
    case' pos =>
      obtain ⟨x, hx⟩ : ∃ x, L[j]? = some x := ⟨_, List.getElem?_eq_getElem hlt⟩
      obtain ⟨h3, f, hf⟩ := HM.out j x hx
      have htk : L.take (j + 1) = L.take j ++ [x] := by rw [List.take_add_one, hx]; rfl
      have hbg : wr.heap[g]? = w3.heap[g]? := HBr.out.block g hg2
      obtain ⟨q0, q1, q2, q3⟩ := HCL.out j x hx wr hbg
      rw [hf, Option.getD_some] at q0
      have HTK : Hid (lsL V r (L.take (j + 1)) = lsL V r (L.take j) ++ lv V r x) := by unfold Hid; rw [htk, lsL_snoc]
      have HLN : Hid ((lsL V r (L.take j)).length ≤ 1082400) := by
        unfold Hid
        have := lsL_len V r (L.take j)
        have : (L.take j).length ≤ L.length := by rw [List.length_take]; omega
        omega
      clear htk hbg hx
      generalize abv V r x = ab at *
      by_cases hd3 : x.1 = 3
      case' pos =>
        rw [hd3] at q1 hf
        have HL3 : Hid (lv V r x = le V f x.2 32) := by unfold Hid lv; rw [if_pos hd3, hd3, hf]; rfl
        rw [HL3.out] at HTK
        have hk3 := HK3.out _ _ hf
        have CEf := fun W hW => CE.out x.2 f W hW hf
        have HEf : Hid (∀ i, i < 32 → ∀ W, (binOp .neq 38 (.agg (ec (V f i)).toArray) (.agg #[.bool false, .bool false, .bool false, .bool false, .bool false, .bool false, .int .i64 0])).run Tryz.prog W = .ok (.bool (decide (V f i ≠ 0))) W) := fun i hi W => HE.out x.2 f i hf hi W
        have CEh : Hid (∀ W, Below w1.heap.size w1 W → Calls Tryz.prog 80 #[.pointer (some ⟨t, 0, none⟩), .int .i64 (f : Nat)] W fun e w' => e = .returned (.agg (es V f 32).toArray) ∧ Below W.heap.size W w') := CEf
        clear CEf hf HL3 h3 hd3 CE HE
        generalize x.2 = kk at *
        have e0 : ((3 - 3 : Nat) : Int) = 0 := rfl
        rw [e0] at q1
        clear e0
        have BX : Hid (Below wr.heap.size wr (wr.alloc (.cells #[.int .i64 (f : Nat), .int .i64 0, .int .i64 (kk : Nat), .int .u64 (ab : Nat)] 149))) := (Below.refl _ _).alloc (Nat.le_refl _) _
        have BN : Hid (C.Blk (wr.alloc (.cells #[.int .i64 (f : Nat), .int .i64 0, .int .i64 (kk : Nat), .int .u64 (ab : Nat)] 149)) wr.heap.size 149 [.int .i64 (f : Nat), .int .i64 0, .int .i64 (kk : Nat), .int .u64 (ab : Nat)]) := C.blk_new _ _ _
        go_wp2_with fail
        refine (CEh.out _ (HB3.out.trans ((HBr.out.trans (BX.out.mono HBr.out.size)).mono HB3.out.size))).mono ?_
        rintro e w4 ⟨rfl, hb4⟩
        have HB4 : Hid (Below w3.heap.size w3 w4) := (HBr.out.trans (BX.out.mono HBr.out.size)).trans (hb4.mono (Nat.le_trans HBr.out.size BX.out.size))
        have HX4 : Hid (C.Blk w4 wr.heap.size 149 [.int .i64 (f : Nat), .int .i64 0, .int .i64 (kk : Nat), .int .u64 (ab : Nat)]) := BN.out.of_eq (hb4.block _ BN.out.lt)
        have HM4 : Hid (Mr w4 w3.heap.size l0 (lsL V r (L.take j))) := (HMr.out.below BX.out).below hb4
        have HNE : Hid (l0.ownBlock ≠ some wr.heap.size) := fun q => Nat.lt_irrefl _ (HMr.out.own_lt _ q).2
        have HIX : Hid (∀ i, i < 32 → ∀ W : World, (Instr.index 150 (.agg (es V f 32).toArray) (.int .i64 (i : Nat))).run Tryz.prog W = .ok (.agg (ec (V f i)).toArray) W) := fun i hi W => run_indexE _ _ i _ hi (es_drop _ _ hi) W
        clear hb4 BX BN CEh HBr HMr q0 q1 q2 q3
        generalize (es V f 32).toArray = A32 at *
        generalize wr.heap.size = gx at *
        generalize lsL V r (L.take j) = LL at *
        go_wp2_with fail
        go_loopw [7, 33] (fun l i wr => ∃ (i' : Nat) (vv : Value), vv = l ∧ i' ≤ 32 ∧ i = .int .i64 i' ∧ Below w3.heap.size w3 wr ∧ C.Blk wr gx 149 [.int .i64 (f : Nat), .int .i64 0, .int .i64 (kk : Nat), .int .u64 (ab : Nat)] ∧ Mr wr w3.heap.size vv (LL ++ le V f kk i') ∧ vv.ownBlock ≠ some gx) (fun _ i _ => 32 - (D.iv i).toNat)
        case atStart => exact ⟨0, _, rfl, by omega, rfl, HB4.out, HX4.out, by rw [show le V f kk 0 = [] from rfl, List.append_nil]; exact HM4.out, HNE.out⟩
        case round =>
          obtain ⟨i, l1, hvv, hi, rfl, hb, hx, hmr, hne⟩ := hrel
          subst hvv
          have HBr : Hid (Below w3.heap.size w3 wr) := hb
          have HXr : Hid (C.Blk wr gx 149 [.int .i64 (f : Nat), .int .i64 0, .int .i64 (kk : Nat), .int .u64 (ab : Nat)]) := hx
          have HMr : Hid (Mr wr w3.heap.size l1 (LL ++ le V f kk i)) := hmr
          have HNr : Hid (l1.ownBlock ≠ some gx) := hne
          have HSZ : Hid (w3.heap.size ≤ wr.heap.size) := hb.size
          clear hb hx hmr hne HB4 HX4 HM4 HNE
          by_cases hlt2 : i < 32
          case' pos =>
            have hd' : decide ((i : Int) < 32) = true := by rw [decide_eq_true_eq]; omega
            have hix := HIX.out i hlt2
            have hne := HEf.out i hlt2
            obtain ⟨b1, b2, b3, b4, b5, b6, a, hec⟩ : ∃ b1 b2 b3 b4 b5 b6 a, ec (V f i) = [.bool b1, .bool b2, .bool b3, .bool b4, .bool b5, .bool b6, .int .i64 a] := ⟨_, _, _, _, _, _, _, rfl⟩
            rw [hec] at hix hne
            have HMC : Hid (mc (kk * 32 + i, V f i) = [.int .i64 ((kk : Int) * 32 + (i : Int)), .bool b1, .bool b2, .bool b3, .bool b4, .bool b5, .bool b6, .int .i64 a]) := by
              unfold Hid mc
              rw [hec]
              show Value.int .i64 ((kk * 32 + i : Nat) : Int) :: _ = _
              rw [show ((kk * 32 + i : Nat) : Int) = (kk : Int) * 32 + (i : Int) by push_cast; rfl]
            have HLS : Hid (le V f kk (i + 1) = le V f kk i ++ (if V f i = 0 then [] else [(kk * 32 + i, V f i)])) := le_succ _ _ _ _
            have HLE : Hid ((LL ++ le V f kk i).length ≤ 1082432) := by
              unfold Hid
              rw [List.length_append]
              have := le_len V f kk i
              have := HLN.out
              omega
            have BY : Hid (∀ o : Obj, Below wr.heap.size wr (wr.alloc o)) := fun o => (Below.refl _ _).alloc (Nat.le_refl _) _
            have k2 := HXr.out.cell 2
            have hgx : gx < wr.heap.size := HXr.out.lt
            simp only [List.getElem?_cons_zero, List.getElem?_cons_succ] at k2
            clear hec
            by_cases hv0 : V f i = 0
            case' pos =>
              rw [if_pos hv0, List.append_nil] at HLS
              have hdd : decide (V f i ≠ 0) = false := by simp [hv0]
              rw [hdd] at hne
              clear hv0 hdd HMC
              go_wp2
              go_roundw
              case rel => exact ⟨i + 1, l1, rfl, by omega, by go_num, HBr.out.trans ((BY.out _).mono HSZ.out), HXr.out.of_eq ((BY.out _).block _ HXr.out.lt), by rw [HLS.out]; exact HMr.out.below (BY.out _), HNr.out⟩
              case measure => simp [D.iv]; omega
            case' neg =>
              rw [if_neg hv0] at HLS
              have hdd : decide (V f i ≠ 0) = true := by simp [hv0]
              rw [hdd] at hne
              clear hv0 hdd
              obtain ⟨i0, hi0, hz0, hz1, hz2⟩ := info_parts Tryz.infoM
              have HOx : Hid (∀ o1 o2 : Obj, World.ownsRow ((wr.alloc o1).alloc o2) w3.heap.size 76 8 l1 (LL ++ le V f kk i).length (enM (LL ++ le V f kk i))) := fun o1 o2 => HMr.out.below (below2 _ _ _)
              go_wp2_with (at_builtin; refine wpList_append_lies _ rfl (.tmp 40) (.tmp 48) 64 rfl w3.heap.size 76 i0 _ 8 24 Tryz.underlying64 hi0 hz0 hz1 hz2 rfl (by decide) l1 (LL ++ le V f kk i).length _ rfl (HOx.out _ _) _ 1 1 [.int .i64 ((kk : Int) * 32 + (i : Int)), .bool b1, .bool b2, .bool b3, .bool b4, .bool b5, .bool b6, .int .i64 a] rfl rfl (cell_new _ _ _ _ (by simp)) (by simp [Value.oneCell']) (by decide) (by unfold maxLen; have := HLE.out; omega) (by have := HLE.out; omega) (by simp; have := HSZ.out; omega) (wr.heap.size + 1 + 1) (by simp) ?_; intro g' cap' w5 h2 h3 h4 h5; have H2 : Hid (World.ownsRow _ _ _ _ _ _ _) := h2; have H3 : Hid (World.grownBy _ _ _) := h3; have H4 : Hid (_ ∨ _) := h4; clear h2 h3 h4 h5)
              go_roundw
              case rel =>
                refine ⟨i + 1, _, rfl, by omega, by go_num, ?_, ?_, ?_, ?_⟩
                · exact grown_below H3.out (HBr.out.trans ((below2 _ _ _).mono HSZ.out)) (fun x hx => (HMr.out.own_lt x hx).1) (by simp; have := HSZ.out; omega)
                · exact HXr.out.of_eq ((H3.out.block gx (by simp; have := HXr.out.lt; omega) (fun e => HNr.out e.symm)).trans ((below2 _ _ _).block _ HXr.out.lt))
                · rw [HLS.out, ← List.append_assoc]
                  have := Mr.push HMC.out H2.out
                  rw [List.length_append] at this
                  exact this
                · intro e
                  have e' : g' = gx := Option.some.inj e
                  rcases H4.out with q | q
                  · exact HNr.out (by rw [← e']; exact q)
                  · have := HXr.out.lt
                    omega
              case measure => simp [D.iv]; omega
          case' neg =>
            obtain rfl : i = 32 := by omega
            go_wp2
            go_roundw
            case rel => exact ⟨j + 1, l1, rfl, by omega, by go_num, HBr.out, by rw [HTK.out]; exact HMr.out⟩
            case measure => simp [D.iv]; omega
      case' neg =>
        have HLV : Hid (lv V r x = []) := by unfold Hid lv; rw [if_neg hd3]
        have hlv : (0 : Int) < ((3 - x.1 : Nat) : Int) := by omega
        generalize ((3 - x.1 : Nat) : Int) = lvv at *
        generalize x.2 = kk at *
        have BX : Hid (∀ o : Obj, Below wr.heap.size wr (wr.alloc o)) := fun o => (Below.refl _ _).alloc (Nat.le_refl _) _
        clear hd3 h3 hf
        go_wp2
        go_roundw
        case rel => exact ⟨j + 1, l0, rfl, by omega, by go_num, HBr.out.trans ((BX.out _).mono HBr.out.size), by rw [HTK.out, HLV.out, List.append_nil]; exact HMr.out.below (BX.out _)⟩
        case measure => simp [D.iv]; omega
    case' neg =>
      obtain rfl : j = L.length := by omega
      have e0 : L.take L.length = L := List.take_length
      rw [e0] at HMr
      clear e0
      go_wp2
      go_ret2
      exact ⟨_, rfl, row_base HMr.out (by have := HB3.out.size; omega), HB3.out.trans (HBr.out.mono HB3.out.size)⟩
end Go.Proofs.YtiegcncpgjnpbaaGreat.Pg
