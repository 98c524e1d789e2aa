/- Next of a ring: of whom the function is asked, what is answered; no condition but a ring, and a function that does nothing to it. -/
import Derived.Test.YtimeoinmepfpnaaRl
namespace Go.Proofs.Ytimeoinmepfpnaa.Ri
open Go.ChangeShapes Go.WideShapes Go.ChangeAt Go.RowKit
set_option linter.unusedVariables false
set_option maxRecDepth 8192

/-- What is asked of a function that says whether a number was used: u in the state s, which St finds in the world; it turns what lies in F, or from B on. -/
structure Us {σ : Type} (M : Nat) (fst : Array Value) (u : σ → Int → Bool × σ) (St : World → σ → Prop) (F : Nat → Prop) (B p : Nat) : Prop where
  ent : ∀ args (w : World), (callFunc M args).run Try.prog w = .ok (.enter M args) w
  call : ∀ W s x, B ≤ W.heap.size → St W s → 0 ≤ x → x < 9223372036854775808 → Calls Try.prog M (fst.push (.int .i64 x)) W fun e W' => e = .returned (.bool (u s x).1) ∧ St W' (u s x).2 ∧ Ch (fun k => F k ∨ B ≤ k) W W'
  keep : ∀ W W' s, St W s → Ch (One p) W W' → St W' s
/-- The same, where no more than so many may be asked: mz counts. -/
structure Uz {σ : Type} (mz : σ → Nat) (M : Nat) (fst : Array Value) (u : σ → Int → Bool × σ) (St : World → σ → Prop) (F : Nat → Prop) (B p : Nat) : Prop where
  ent : ∀ args (w : World), (callFunc M args).run Try.prog w = .ok (.enter M args) w
  one : ∀ s x, mz (u s x).2 ≤ mz s + 1
  call : ∀ W s x, mz s ≤ 9000 → B ≤ W.heap.size → St W s → 0 ≤ x → x < 9223372036854775808 → Calls Try.prog M (fst.push (.int .i64 x)) W fun e W' => e = .returned (.bool (u s x).1) ∧ St W' (u s x).2 ∧ Ch (fun k => F k ∨ B ≤ k) W W'
  keep : ∀ W W' s, B ≤ W.heap.size → St W s → Ch (One p) W W' → St W' s
theorem Us.z {σ : Type} {M : Nat} {fst : Array Value} {u : σ → Int → Bool × σ} {St : World → σ → Prop} {F : Nat → Prop} {B p : Nat} (U : Us M fst u St F B p) : Uz (fun _ => 0) M fst u St F B p :=
  ⟨U.ent, fun _ _ => Nat.zero_le _, fun W s x _ => U.call W s x, fun W W' s _ => U.keep W W' s⟩
/-- The answer of Next as it is told. -/
def nval {σ : Type} (R : Option Int × Nat × List Int × σ) : Value := .tuple #[.int .i64 (R.1.getD 0), .int .i64 (R.2.1 : Nat), .int .i64 (if R.1.isSome then 0 else 190)]
theorem nval_some {σ : Type} {R : Option Int × Nat × List Int × σ} {x : Int} {k : Nat} {L : List Int} {s : σ} (h : R = (some x, k, L, s)) : nval R = .tuple #[.int .i64 x, .int .i64 (k : Nat), .int .i64 0] := by subst h; rfl
theorem nval_none {σ : Type} {R : Option Int × Nat × List Int × σ} {k : Nat} {L : List Int} {s : σ} (h : R = (none, k, L, s)) : nval R = .tuple #[.int .i64 0, .int .i64 (k : Nat), .int .i64 190] := by subst h; rfl
/-- Where Next leaves a ring. -/
def Nx {σ : Type} (R : Option Int × Nat × List Int × σ) (St : World → σ → Prop) (F : Nat → Prop) (p g B : Nat) (w w' : World) : Prop := Rx w' p g R.2.2.1 ∧ St w' R.2.2.2 ∧ Ch (fun k => k = p ∨ F k ∨ B ≤ k) w w'
theorem Next_no {w : World} {q : Option Addr} (r : NoR w q) (pin : Int) (f : Value) : Calls Try.prog 18 #[.pointer q, .int .i64 pin, f] w fun e w' => e = .returned (.tuple #[.int .i64 0, .int .i64 0, .int .i64 1]) ∧ w' = w := by
  have CM := made_no r
  clear r
  go_enter Try.func18, Try.ntmps18
  go_wp2_with (go_at_call 25; refine CM.mono ?_; rintro e w' ⟨rfl, hw⟩; obtain rfl := hw.symm)
  go_ret3
  exact ⟨rfl, rfl⟩
theorem Next_nil {w : World} {p g h : Nat} {l : List Int} (r : Rn w p g l h) (pin : Int) : Calls Try.prog 18 #[.pointer (some ⟨p, 0, none⟩), .int .i64 pin, .nilFunc] w fun e w' => e = .returned (.tuple #[.int .i64 0, .int .i64 0, .int .i64 2]) ∧ w' = w := by
  have CM := made_ok r
  have hnil : ∀ w : World, (binOp BinOp.eql 45 .nilFunc .nilFunc).run Try.prog w = .ok (.bool true) w := fun _ => by kernel_rfl
  clear r
  go_enter Try.func18, Try.ntmps18
  go_wp2_with (go_at_call 25; refine CM.mono ?_; rintro e w' ⟨rfl, hw⟩; obtain rfl := hw.symm)
  go_ret3
  exact ⟨rfl, rfl⟩
set_option maxHeartbeats 2000000 in
theorem Next_n {σ : Type} {mz : σ → Nat} {M : Nat} {fst : Array Value} {u : σ → Int → Bool × σ} {St : World → σ → Prop} {F : Nat → Prop} {w : World} {p g h : Nat} {l : List Int} {s : σ} (U : Uz mz M fst u St F w.heap.size p) (hz : mz s = 0) (r : Rn w p g l h) (hs : St w s) (hFp : ¬ F p) (hFg : ¬ F g) (pin : Int) :
    Calls Try.prog 18 #[.pointer (some ⟨p, 0, none⟩), .int .i64 pin, .func (.func M) fst #[]] w fun e w' => e = .returned (nval (nxt u pin (rw_ l h) s)) ∧ Nx (nxt u pin (rw_ l h) s) St F p g w.heap.size w w' := by
  have CM := made_ok r
  have hnf : ∀ w : World, (binOp BinOp.eql 45 (.func (.func M) fst #[]) .nilFunc).run Try.prog w = .ok (.bool false) w := fun _ => by rfl
  have hle := r.ok.le
  obtain ⟨cap, h1, h2⟩ := r.st
  have c0 : w.cell? ⟨p, 0, none⟩ = some (.slice (some ⟨g, 0, none⟩) l.length cap) := h1.cell 0
  have HR : Hid (Rn w p g l h) := r
  have HS : Hid (St w s) := hs
  have HN : Hid (¬ F p ∧ ¬ F g) := ⟨hFp, hFg⟩
  have HU : Hid (Uz mz M fst u St F w.heap.size p) := U
  have HZ0 : Hid (mz s = 0) := hz
  have HP : Hid (p < w.heap.size ∧ g < w.heap.size) := ⟨r.pl, r.gl⟩
  have hlen : Hid (2 * (rw_ l h).length + 1 = 2 * l.length + 1) := by unfold Hid; rw [rw_len]
  clear h1 h2 r hs hFp hFg U hz
  go_enter Try.func18, Try.ntmps18
  go_wp2_with (go_at_call 25; refine CM.mono ?_; rintro e w' ⟨rfl, hw⟩; obtain rfl := hw.symm)
  go_loopw [7] (fun t wr => ∃ (j : Nat) (h' : Nat) (s' : σ), t = .int .i64 j ∧ Rn wr p g l h' ∧ (l ≠ [] → At u pin (rw_ l h) s j (rw_ l h') s') ∧ (l = [] → j = 0 ∧ s' = s) ∧ St wr s' ∧ Ch (fun k => k = p ∨ F k ∨ w.heap.size ≤ k) w wr ∧ mz s' ≤ j) (fun t _ => 2 * l.length + 1 - (intOf t).toNat)
  case atStart => exact ⟨0, h, s, rfl, HR.out, fun _ => At.start _ _ _ _, fun _ => ⟨rfl, rfl⟩, HS.out, Ch.refl _ _, Nat.le_of_eq HZ0.out⟩
  case round =>
    obtain ⟨j, h', s', rfl, hrn, hat, hnl, hst, hch, hmz⟩ := hrel
    have HMZ : Hid (mz s' ≤ j) := hmz
    clear hmz
    obtain ⟨cap', h1, h2⟩ := hrn.st
    have c0' : wr.cell? ⟨p, 0, none⟩ = some (.slice (some ⟨g, 0, none⟩) l.length cap') := h1.cell 0
    have HR' : Hid (Rn wr p g l h') := hrn
    have HS' : Hid (St wr s') := hst
    have HC' : Hid (Ch (fun k => k = p ∨ F k ∨ w.heap.size ≤ k) w wr) := hch
    by_cases hl0 : l = []
    · obtain ⟨hj, hss⟩ := hnl hl0
      subst hj hss
      have e0 : l.length = 0 := by rw [hl0]; rfl
      have HE : Hid (nxt u pin (rw_ l h) s' = (none, 0, rw_ l h', s')) := by
        subst hl0
        unfold Hid
        have a : rw_ [] h = [] := by simp [rw_]
        have b : rw_ [] h' = [] := by simp [rw_]
        rw [a, b]
        rfl
      rw [e0] at c0'
      clear hrn h1 h2 hst hch hat hnl hl0 hlen HU HR HN
      go_wp2
      go_ret3
      refine ⟨by rw [nval_none HE.out]; rfl, ?_⟩
      unfold Nx
      rw [HE.out]
      exact ⟨⟨l, h', HR'.out, rfl⟩, HS'.out, HC'.out⟩
    · have HAT : Hid (At u pin (rw_ l h) s j (rw_ l h') s') := hat hl0
      have hpos : 0 < l.length := List.length_pos_iff.2 hl0
      have hjle : j ≤ 2 * l.length + 1 := by have := HAT.out.1; rw [hlen.out] at this; exact this
      by_cases hj : j < 2 * l.length + 1
      · have hh' : h' < l.length := hrn.hd.resolve_right (fun q => hl0 q.1)
        have hx0 := hrn.ok.nn l[h'] (List.getElem_mem _)
        have hx1 := hrn.ok.up l[h'] (List.getElem_mem _)
        have hcons := rw_cons hh'
        have hnext := rw_next hh'
        rw [hcons] at hnext
        have LK : Hid (Calls _ _ _ _ _) := look_ok hrn hh'
        have HAT2 : Hid (At u pin (rw_ l h) s j (l[h'] :: (l.drop (h' + 1) ++ l.take h')) s') := by unfold Hid; rw [← hcons]; exact HAT.out
        have HNX : Hid (rw_ l ((h' + 1) % l.length) = (l.drop (h' + 1) ++ l.take h') ++ [l[h']]) := hnext
        have HJ : Hid (j < 2 * (rw_ l h).length + 1) := by unfold Hid; rw [hlen.out]; exact hj
        have HL0 : Hid (l ≠ []) := hl0
        clear hrn h1 h2 hst hch hat hnl hl0 hcons hnext HAT
        generalize l[h'] = x at *
        generalize l.drop (h' + 1) ++ l.take h' = T at *
        generalize (h' + 1) % l.length = h2 at *
        generalize l.length = n at *
        by_cases hp : x = pin
        · subst hp
          have HA3 := HAT2.out.pin HJ.out
          have HA : Hid (At u x (rw_ l h) s (j + 1) (rw_ l h2) s') := by unfold Hid; rw [HNX.out]; exact HA3
          clear HA3
          go_wp2_with (go_at_call 33; refine LK.out.mono ?_; rintro e w1 ⟨rfl, r1, k1⟩; have HK : Hid (Rn w1 p g l h2 ∧ Ch (One p) wr w1) := ⟨r1, k1⟩; clear r1 k1)
          go_roundw
          case rel => exact ⟨j + 1, h2, s', by go_num, HK.out.1, fun _ => HA.out, fun q => absurd q HL0.out, HU.out.keep _ _ _ HC'.out.size HS'.out HK.out.2, HC'.out.trans HK.out.2 (fun _ q => q) (fun i q => Or.inl (Or.inl q)), Nat.le_succ_of_le HMZ.out⟩
          case measure => simp [intOf]; omega
        · have UO : Hid (∀ w1, Ch (One p) wr w1 → Calls Try.prog 34 #[.func (.func M) fst #[], .int .i64 x] w1 fun e w' => e = .returned (.bool !(u s' x).1) ∧ St w' (u s' x).2 ∧ Ch (fun k => F k ∨ w.heap.size ≤ k) w1 w') := fun w1 k => unused_ok HU.out.ent (HU.out.call w1 s' x (Nat.le_trans HMZ.out (by omega)) (Nat.le_trans HC'.out.size k.size) (HU.out.keep _ _ _ HC'.out.size HS'.out k) hx0 hx1)
          have HM2 : Hid (mz (u s' x).2 ≤ j + 1) := Nat.le_trans (HU.out.one s' x) (Nat.succ_le_succ HMZ.out)
          have HPN : Hid (x ≠ pin) := hp
          cases hb : (u s' x).1
          · have HA3 := HAT2.out.ans HJ.out HPN.out hb
            rw [← HNX.out] at HA3
            have HA : Hid (nxt u pin (rw_ l h) s = (some x, j + 1, rw_ l h2, (u s' x).2)) := HA3
            rw [hb] at UO
            clear HA3 HAT2
            generalize (u s' x).2 = s2 at *
            clear hb
            go_wp2_with (first | (go_at_call 33; refine LK.out.mono ?_; rintro e w1 ⟨rfl, r1, k1⟩; have HK : Hid (Rn w1 p g l h2 ∧ Ch (One p) wr w1) := ⟨r1, k1⟩; clear r1 k1) | (go_at_call 34; refine (UO.out _ HK.out.2).mono ?_; rintro e w2 ⟨rfl, st2, k2⟩; have HK2 : Hid (St w2 s2 ∧ Ch (fun k => F k ∨ w.heap.size ≤ k) w1 w2) := ⟨st2, k2⟩; clear st2 k2))
            have HR2 : Hid (Rn w2 p g l h2) := HK.out.1.ch HK2.out.2 (fun q => q.elim HN.out.1 (fun z => by have := HP.out.1; omega)) (fun q => q.elim HN.out.2 (fun z => by have := HP.out.2; omega))
            have HCC : Hid (Ch (fun k => k = p ∨ F k ∨ w.heap.size ≤ k) w w2) := (HC'.out.trans HK.out.2 (fun _ q => q) (fun i q => Or.inl (Or.inl q))).trans HK2.out.2 (fun _ q => q) (fun i q => Or.inl (Or.inr q))
            go_ret3
            refine ⟨by rw [nval_some HA.out]; rfl, ?_⟩
            unfold Nx
            rw [HA.out]
            exact ⟨⟨l, h2, HR2.out, rfl⟩, HK2.out.1, HCC.out⟩
          · have HA3 := HAT2.out.pass HJ.out HPN.out hb
            rw [← HNX.out] at HA3
            have HA : Hid (At u pin (rw_ l h) s (j + 1) (rw_ l h2) (u s' x).2) := HA3
            rw [hb] at UO
            clear HA3 HAT2
            generalize (u s' x).2 = s2 at *
            clear hb
            go_wp2_with (first | (go_at_call 33; refine LK.out.mono ?_; rintro e w1 ⟨rfl, r1, k1⟩; have HK : Hid (Rn w1 p g l h2 ∧ Ch (One p) wr w1) := ⟨r1, k1⟩; clear r1 k1) | (go_at_call 34; refine (UO.out _ HK.out.2).mono ?_; rintro e w2 ⟨rfl, st2, k2⟩; have HK2 : Hid (St w2 s2 ∧ Ch (fun k => F k ∨ w.heap.size ≤ k) w1 w2) := ⟨st2, k2⟩; clear st2 k2))
            have HR2 : Hid (Rn w2 p g l h2) := HK.out.1.ch HK2.out.2 (fun q => q.elim HN.out.1 (fun z => by have := HP.out.1; omega)) (fun q => q.elim HN.out.2 (fun z => by have := HP.out.2; omega))
            have HCC : Hid (Ch (fun k => k = p ∨ F k ∨ w.heap.size ≤ k) w w2) := (HC'.out.trans HK.out.2 (fun _ q => q) (fun i q => Or.inl (Or.inl q))).trans HK2.out.2 (fun _ q => q) (fun i q => Or.inl (Or.inr q))
            go_roundw
            case rel => exact ⟨j + 1, h2, s2, by go_num, HR2.out, fun _ => HA.out, fun q => absurd q HL0.out, HK2.out.1, HCC.out, HM2.out⟩
            case measure => simp [intOf]; omega
      · obtain rfl : j = 2 * l.length + 1 := by omega
        have HE : Hid (nxt u pin (rw_ l h) s = (none, 2 * l.length + 1, rw_ l h', s')) := by
          have a := HAT.out
          rw [← hlen.out] at a
          have b := a.end_
          rw [hlen.out] at b
          exact b
        clear hrn h1 h2 hst hch hat hnl hl0 HAT hlen
        have hc : (((2 * l.length + 1 : Nat)) : Int) = 2 * (l.length : Int) + 1 := by omega
        go_wp2
        go_ret3
        refine ⟨by rw [nval_none HE.out]; rfl, ?_⟩
        unfold Nx
        rw [HE.out]
        exact ⟨⟨l, h', HR'.out, rfl⟩, HS'.out, HC'.out⟩

theorem Next_z {σ : Type} {mz : σ → Nat} {M : Nat} {fst : Array Value} {u : σ → Int → Bool × σ} {St : World → σ → Prop} {F : Nat → Prop} {w : World} {p g : Nat} {L : List Int} {s : σ} (U : Uz mz M fst u St F w.heap.size p) (hz : mz s = 0) (r : Rx w p g L) (hs : St w s) (hFp : ¬ F p) (hFg : ¬ F g) (pin : Int) :
    Calls Try.prog 18 #[.pointer (some ⟨p, 0, none⟩), .int .i64 pin, .func (.func M) fst #[]] w fun e w' => e = .returned (nval (nxt u pin L s)) ∧ Nx (nxt u pin L s) St F p g w.heap.size w w' := by
  obtain ⟨l, h, r, rfl⟩ := r
  exact Next_n U hz r hs hFp hFg pin
theorem Next_ok {σ : Type} {M : Nat} {fst : Array Value} {u : σ → Int → Bool × σ} {St : World → σ → Prop} {F : Nat → Prop} {w : World} {p g : Nat} {L : List Int} {s : σ} (U : Us M fst u St F w.heap.size p) (r : Rx w p g L) (hs : St w s) (hFp : ¬ F p) (hFg : ¬ F g) (pin : Int) :
    Calls Try.prog 18 #[.pointer (some ⟨p, 0, none⟩), .int .i64 pin, .func (.func M) fst #[]] w fun e w' => e = .returned (nval (nxt u pin L s)) ∧ Nx (nxt u pin L s) St F p g w.heap.size w w' := by
  exact Next_z U.z rfl r hs hFp hFg pin
end Go.Proofs.Ytimeoinmepfpnaa.Ri
