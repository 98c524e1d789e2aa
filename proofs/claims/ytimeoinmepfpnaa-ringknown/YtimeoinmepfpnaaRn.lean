/- What used says: never, ever, bits that are cleared; two rows held against one another; a ring of 1, 2, 3; works; no condition but those that each theorem names. -/
import Derived.Test.YtimeoinmepfpnaaRm
namespace Go.Proofs.Ytimeoinmepfpnaa.Ri
open Go.ChangeShapes Go.WideShapes Go.ChangeAt Go.RowKit
set_option linter.unusedVariables false
set_option maxRecDepth 8192

theorem us_never (B p : Nat) : Us 23 #[] nev (fun _ (_ : Unit) => True) (fun _ => False) B p where
  ent := fun args w => by rfl
  call := fun W s x _ _ _ _ => by
    show Calls Try.prog 23 #[.int .i64 x] W _
    go_enter Try.func23, Try.ntmps23
    go_wp2
    go_ret
    exact ⟨rfl, trivial, Ch.refl _ _⟩
  keep := fun _ _ _ _ _ => trivial
theorem us_ever (B p : Nat) : Us 24 #[] evr (fun _ (_ : Unit) => True) (fun _ => False) B p where
  ent := fun args w => by rfl
  call := fun W s x _ _ _ _ => by
    show Calls Try.prog 24 #[.int .i64 x] W _
    go_enter Try.func24, Try.ntmps24
    go_wp2
    go_ret
    exact ⟨rfl, trivial, Ch.refl _ _⟩
  keep := fun _ _ _ _ _ => trivial
/-- A function that turns nothing. -/
theorem next_calm {σ : Type} {M : Nat} {u : σ → Int → Bool × σ} {St : World → σ → Prop} {w : World} {p g : Nat} {L : List Int} {s : σ} (U : Us M #[] u St (fun _ => False) w.heap.size p) (r : Rx w p g L) (hs : St w s) (pin : Int) :
    Calls Try.prog 18 #[.pointer (some ⟨p, 0, none⟩), .int .i64 pin, .func (.func M) #[] #[]] w fun e w' => e = .returned (nval (nxt u pin L s)) ∧ Rx w' p g (nxt u pin L s).2.2.1 ∧ Ch (One p) w w' :=
  (Next_ok U r hs (fun q => q) (fun q => q) pin).mono fun e w' ⟨h1, h2, h3, h4⟩ => ⟨h1, h2, h4.also (fun i q => q.elim Or.inl (fun z => Or.inr (z.elim False.elim id)))⟩
theorem never_some {w : World} {p g : Nat} {L L' : List Int} (r : Rx w p g L) {pin x : Int} {k : Nat} (h : nxt nev pin L () = (some x, k, L', ())) :
    Calls Try.prog 18 #[.pointer (some ⟨p, 0, none⟩), .int .i64 pin, .func (.func 23) #[] #[]] w fun e w' => e = .returned (.tuple #[.int .i64 x, .int .i64 k, .int .i64 0]) ∧ Rx w' p g L' ∧ Ch (One p) w w' := by
  have := next_calm (us_never w.heap.size p) r (s := ()) trivial pin
  rw [nval_some h, h] at this
  exact this
theorem never_none {w : World} {p g : Nat} {L L' : List Int} (r : Rx w p g L) {pin : Int} {k : Nat} (h : nxt nev pin L () = (none, k, L', ())) :
    Calls Try.prog 18 #[.pointer (some ⟨p, 0, none⟩), .int .i64 pin, .func (.func 23) #[] #[]] w fun e w' => e = .returned (.tuple #[.int .i64 0, .int .i64 k, .int .i64 190]) ∧ Rx w' p g L' ∧ Ch (One p) w w' := by
  have := next_calm (us_never w.heap.size p) r (s := ()) trivial pin
  rw [nval_none h, h] at this
  exact this
theorem ever_none {w : World} {p g : Nat} {L L' : List Int} (r : Rx w p g L) {pin : Int} {k : Nat} (h : nxt evr pin L () = (none, k, L', ())) :
    Calls Try.prog 18 #[.pointer (some ⟨p, 0, none⟩), .int .i64 pin, .func (.func 24) #[] #[]] w fun e w' => e = .returned (.tuple #[.int .i64 0, .int .i64 k, .int .i64 190]) ∧ Rx w' p g L' ∧ Ch (One p) w w' := by
  have := next_calm (us_ever w.heap.size p) r (s := ()) trivial pin
  rw [nval_none h, h] at this
  exact this
/-- Sixty-four bits as cells. -/
def bv (f : Nat → Bool) : List Value := (List.range 64).map fun i => .bool (f i)
theorem bv_at {f : Nat → Bool} {i : Nat} (h : i < 64) : (bv f)[i]? = some (.bool (f i)) := by
  unfold bv
  rw [List.getElem?_map, List.getElem?_range h]
  rfl
theorem bv_set (f : Nat → Bool) (i : Nat) (b : Bool) : (bv f).set i (.bool b) = bv (fun k => if k = i then b else f k) := by
  apply List.ext_getElem?
  intro k
  unfold bv
  rw [List.getElem?_set, List.getElem?_map, List.getElem?_map]
  by_cases hk : k < 64
  · rw [List.getElem?_range hk]
    by_cases e : i = k
    · subst e
      simp [hk]
    · have e' : k ≠ i := fun q => e q.symm
      simp [e, e']
  · rw [List.getElem?_eq_none (by simpa using hk)]
    simp
    intro e
    omega
def Bi (w : World) (b : Nat) (f : Nat → Bool) : Prop := Blk w b 42 (bv f)
theorem Bi.cell {w : World} {b : Nat} {f : Nat → Bool} (h : Bi w b f) {i : Nat} (hi : i < 64) : w.cell? ⟨b, i, none⟩ = some (.bool (f i)) := (Blk.cell h i).trans (bv_at hi)
theorem Bi.set {w : World} {b : Nat} {f : Nat → Bool} (h : Bi w b f) (i : Nat) (x : Bool) : Bi (w.setCell ⟨b, i, none⟩ (.bool x)) b (fun k => if k = i then x else f k) := by
  have := Blk.set h i (.bool x)
  rw [bv_set] at this
  exact this
theorem us_bits (b B p : Nat) (hp : b ≠ p) : Us 19 #[.pointer (some ⟨b, 0, none⟩)] bu (fun w f => Bi w b f) (fun k => k = b) B p where
  ent := fun args w => by rfl
  call := fun W f x _ h hx0 hx1 => by
    show Calls Try.prog 19 #[.pointer (some ⟨b, 0, none⟩), .int .i64 x] W _
    have hm : x.tmod 64 = ((x % 64).toNat : Int) := by
      rw [Int.tmod_eq_emod_of_nonneg hx0]
      omega
    have hlt : (x % 64).toNat < 64 := by omega
    have e : bu f x = (f ((x % 64).toNat), fun i => if i = (x % 64).toNat then false else f i) := rfl
    rw [e]
    generalize (x % 64).toNat = i at *
    have c := Bi.cell h hlt
    have fz : W.frozen? ⟨b, i, none⟩ = false := Blk.frozen h i
    have HS : Hid (Bi (W.setCell ⟨b, i, none⟩ (.bool false)) b (fun k => if k = i then false else f k) ∧ Ch (fun k => k = b ∨ B ≤ k) W (W.setCell ⟨b, i, none⟩ (.bool false))) := ⟨h.set i false, Ch.grown (grown_setCell' W b i _) (fun y hy => Or.inl (by cases hy; rfl))⟩
    clear h e
    generalize f i = z at *
    go_enter Try.func19, Try.ntmps19
    go_wp2
    go_ret
    exact ⟨rfl, HS.out.1, HS.out.2⟩
  keep := fun W W' f h k => Blk.ch h k hp
theorem EqInts_any {w : World} {v1 v2 : Value} {L : List Int} (hl : L.length ≤ 100000) (h1 : Lst w v1 L) (h2 : Lst w v2 L) : Calls Try.prog 14 #[v1, v2] w fun e w' => e = .returned (.bool true) ∧ Below w.heap.size w w' := by
  obtain ⟨a1, c1, rfl, h1⟩ := h1
  obtain ⟨a2, c2, rfl, h2⟩ := h2
  have HN : Hid (∀ i, i < L.length → L ≠ []) := fun i hi e => by rw [e] at hi; simp at hi
  have HG : Hid (∀ i, i < L.length → L[i]? = some (L.getD i 0)) := fun i hi => by rw [List.getD_eq_getElem?_getD, List.getElem?_eq_getElem hi]; rfl
  generalize L.length = n at *
  have H1 : Hid _ := h1
  have H2 : Hid _ := h2
  clear h1 h2
  go_enter Try.func14, Try.ntmps14
  go_wp2
  go_loopw [5] (fun i wr => ∃ k q : Nat, k ≤ n ∧ i = .int .i64 k ∧ wr = w.drewN q) (fun i _ => n - (intOf i).toNat)
  case atStart => exact ⟨0, 0, by omega, rfl, rfl⟩
  case round =>
    obtain ⟨k, q, hk, rfl, hwr⟩ := hrel
    have HWR : Hid (wr = w.drewN q) := hwr
    by_cases hlt : k < n
    · obtain ⟨b, o, rfl, d1⟩ := H1.out.resolve_left (HN.out k hlt)
      obtain ⟨b', o', rfl, d2⟩ := H2.out.resolve_left (HN.out k hlt)
      have e1 : wr.cell? ⟨b, o + k, none⟩ = some (.int .i64 (L.getD k 0)) := by rw [hwr]; exact d1 k _ (HG.out k hlt)
      have e2 : wr.cell? ⟨b', o' + k, none⟩ = some (.int .i64 (L.getD k 0)) := by rw [hwr]; exact d2 k _ (HG.out k hlt)
      clear d1 d2 hwr
      generalize L.getD k 0 = v at *
      go_wp2
      go_quiet (fail)
      go_wp2
      go_roundw
      case rel => exact ⟨k + 1, q + nq, by omega, by go_num, by rw [HWR.out]; simp [World.drewN_drewN]⟩
      case measure => simp [intOf]; omega
    · obtain rfl : k = n := by omega
      have HB : Hid (Below w.heap.size w wr) := by rw [hwr]; exact below_drewN w q
      clear hwr
      go_wp2
      go_ret
      exact ⟨rfl, HB.out⟩
theorem lst_new (w : World) (L : List Int) (c : Nat) : Lst (w.alloc (.cells (tv L).toArray 3)) (.slice (some ⟨w.heap.size, 0, none⟩) L.length c) L := by
  have hb := blk_new w (tv L) 3
  refine ⟨_, _, rfl, Or.inr ⟨_, 0, rfl, fun i t ht => ?_⟩⟩
  rw [Nat.zero_add, hb.cell, tv_get, ht]
  rfl
theorem Tn.adm {w w' : World} {p g B : Nat} {L : List Int} (h : Tn w p g L w') (hp : B ≤ p) (hg : B ≤ g) (hB : B ≤ w.heap.size) : ∃ g', Rx w' p g' L ∧ Below B w w' ∧ B ≤ g' ∧ (g' = g ∨ w.heap.size ≤ g') := by
  obtain ⟨g', r, k, e⟩ := h
  refine ⟨g', r, k.to hB (fun i q => by rcases q with q | q <;> omega), by rcases e with e | e <;> omega, e⟩
theorem sg_add1 {k : Nat} (h : k < 4096) : AdS (sg 1 k) ((1 + k : Nat) : Int) (sg 1 (k + 1)) 0 := Or.inr (Or.inr (Or.inr ⟨by omega, fun q => by have := sg_mem.1 q; omega, by rw [sg_len]; exact h, by rw [sg_snoc], rfl⟩))
/-- Add, where it is known what it answers. -/
theorem Add_is {w : World} {p g : Nat} {L L' : List Int} {x er : Int} (r : Rx w p g L) (hx : x < 9223372036854775808) (h : AdS L x L' er) :
    Calls Try.prog 10 #[.pointer (some ⟨p, 0, none⟩), .int .i64 x] w fun e w' => e = .returned (.int .i64 er) ∧ Tn w p g L' w' :=
  (Add_ok r x hx).mono fun e w' ⟨L2, e2, h1, h2, h3⟩ => by
    obtain ⟨rfl, rfl⟩ := h.uniq h2
    exact ⟨h1, h3⟩
theorem Remove_is {w : World} {p g : Nat} {L L' : List Int} {x er : Int} (r : Rx w p g L) (h : RmS L x L' er) :
    Calls Try.prog 20 #[.pointer (some ⟨p, 0, none⟩), .int .i64 x] w fun e w' => e = .returned (.int .i64 er) ∧ Tn w p g L' w' :=
  (Remove_ok r x).mono fun e w' ⟨L2, e2, h1, h2, h3⟩ => by
    obtain ⟨rfl, rfl⟩ := h.uniq h2
    exact ⟨h1, h3⟩
theorem three_ok (w : World) : Calls Try.prog 22 #[] w fun e w' => ∃ p g, e = .returned (.pointer (some ⟨p, 0, none⟩)) ∧ Rx w' p g [1, 2, 3] ∧ Below w.heap.size w w' ∧ w.heap.size ≤ p ∧ w.heap.size ≤ g := by
  have NW := New_ok w
  go_enter Try.func22, Try.ntmps22
  go_wp2_with (go_at_call 8; refine NW.mono ?_; rintro e w1 ⟨rfl, r1, b1⟩; have HR : Hid (Rn w1 (w.heap.size + 1) w.heap.size [] 0 ∧ Below w.heap.size w w1) := ⟨r1, b1⟩; clear r1 b1)
  go_loopw [2] (fun i wr => ∃ k g : Nat, k ≤ 3 ∧ i = .int .i64 ((1 + k : Nat) : Int) ∧ Rx wr (w.heap.size + 1) g (sg 1 k) ∧ Below w.heap.size w wr ∧ w.heap.size ≤ g) (fun i _ => 4 - (intOf i).toNat)
  case atStart => exact ⟨0, w.heap.size, by omega, rfl, ⟨[], 0, HR.out.1, rfl⟩, HR.out.2, Nat.le_refl _⟩
  case round =>
    obtain ⟨k, g, hk, rfl, r, b, hg⟩ := hrel
    clear HR NW
    have HB : Hid (Below w.heap.size w wr ∧ Rx wr (w.heap.size + 1) g (sg 1 k)) := ⟨b, r⟩
    by_cases hlt : k < 3
    · have CA : Hid (Calls _ _ _ _ _) := Add_is r (by omega) (sg_add1 (k := k) (by omega))
      clear b r
      go_wp2_with (go_at_call 10; refine CA.out.mono ?_; rintro e w2 ⟨rfl, t2⟩; have HT : Hid (Tn wr (w.heap.size + 1) g (sg 1 (k + 1)) w2) := t2; clear t2)
      go_roundw
      case rel =>
        obtain ⟨g', q1, q2, q3, _⟩ := HT.out.adm (B := w.heap.size) (by omega) hg HB.out.1.size
        exact ⟨k + 1, g', by omega, by go_num, q1, HB.out.1.trans q2, q3⟩
      case measure => simp [intOf]; omega
    · obtain rfl : k = 3 := by omega
      clear b r
      go_wp2
      go_ret
      exact ⟨_, g, rfl, HB.out.2, HB.out.1, by omega, hg⟩
end Go.Proofs.Ytimeoinmepfpnaa.Ri
