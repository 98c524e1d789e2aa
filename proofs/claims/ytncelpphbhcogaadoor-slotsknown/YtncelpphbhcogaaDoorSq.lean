/- SlotsKnown walked: the chapter's examples, 1024 slots, areas that are none; no condition but the table of math/bits. -/
import Derived.Test.YtncelpphbhcogaaDoorSk
namespace Go.Proofs.YtncelpphbhcogaaDoor.Z
open Go.ChangeShapes Go.WideShapes Go.ChangeAt Go.RowKit
set_option linter.unusedVariables false
set_option maxRecDepth 8192

theorem uUsed {w : World} {s g n : Nat} {T : List Bool} (h : Ap w s g T) (hc : cT T = n) : Calls Tryd.prog 12 #[.pointer (some ⟨s, 0, none⟩)] w fun e w' => ∃ a c, e = .returned (.slice a n c) ∧ Below w.heap.size w w' :=
  (aUsed h).mono fun e w' ⟨v, he, hi, hb⟩ => by
    obtain ⟨a, c, rfl, _⟩ := hi.lst
    rw [us_len, hc] at he
    exact ⟨a, c, he, hb⟩
theorem uFree {w : World} {s g : Nat} {T : List Bool} {x : Int} (h : Ap w s g T) (hx : (T.length : Int) - (cT T : Nat) = x) : Calls Tryd.prog 13 #[.pointer (some ⟨s, 0, none⟩)] w fun e w' => e = .returned (.int .i64 x) ∧ Below w.heap.size w w' := by
  have := aFree h
  rwa [hx] at this
/-- One area made since w0. -/
structure K1 (w0 w : World) (s g : Nat) (T : List Bool) : Prop where
  be : Below w0.heap.size w0 w
  tb : Tb w
  a : Ap w s g T
  lg : w0.heap.size ≤ g
theorem K1.below {w0 w w' : World} {s g : Nat} {T : List Bool} (h : K1 w0 w s g T) (k : Below w.heap.size w w') : K1 w0 w' s g T := ⟨bs h.be k, h.tb.below k, h.a.below k, h.lg⟩
theorem K1.take {w0 w : World} {s g : Nat} {T T' : List Bool} {a er : Int} (h : K1 w0 w s g T) (t : TkS T T' a er) : Calls Tryd.prog 8 #[.pointer (some ⟨s, 0, none⟩)] w fun e w' => e = .returned (.tuple #[.int .i64 a, .int .i64 er]) ∧ K1 w0 w' s g T' ∧ w.grownBy w' (some g) :=
  (aTake_is h.a h.tb t).mono fun e w' ⟨he, ha, hk, ht⟩ => ⟨he, ⟨h.be.grown hk h.be.size (fun x hx => by cases hx; exact h.lg), ht, ha, h.lg⟩, hk⟩
theorem K1.give {w0 w : World} {s g : Nat} {T T' : List Bool} {x er : Int} (h : K1 w0 w s g T) (t : GvS T x T' er) : Calls Tryd.prog 10 #[.pointer (some ⟨s, 0, none⟩), .int .i64 x] w fun e w' => e = .returned (.int .i64 er) ∧ K1 w0 w' s g T' ∧ w.grownBy w' (some g) :=
  (aGive_is h.a h.tb t).mono fun e w' ⟨he, ha, hk, ht⟩ => ⟨he, ⟨h.be.grown hk h.be.size (fun x hx => by cases hx; exact h.lg), ht, ha, h.lg⟩, hk⟩
theorem k1_new {n : Nat} (hn : n ≤ 1024) {w0 w : World} (hb : Below w0.heap.size w0 w) (ht : Tb w) : Calls Tryd.prog 6 #[.int .i64 (n : Int)] w fun e w' => ∃ s g, e = .returned (.tuple #[.pointer (some ⟨s, 0, none⟩), .int .i64 0]) ∧ K1 w0 w' s g (nw n) ∧ w.heap.size ≤ s ∧ w.heap.size ≤ g ∧ Below w.heap.size w w' :=
  (aNew hn ht).mono fun e w' ⟨s, g, he, ha, hs, hg, hb', ht'⟩ => ⟨s, g, he, ⟨bs hb hb', ht', ha, by have := hb.size; omega⟩, hs, hg, hb'⟩
/-- One area, and one without slots beside it. -/
structure K2 (w0 w : World) (s g : Nat) (T : List Bool) (s2 g2 : Nat) : Prop where
  k : K1 w0 w s g T
  a : Ap w s2 g2 []
  sg : s2 ≠ g
  gg : g2 ≠ g
theorem K2.below {w0 w w' : World} {s g s2 g2 : Nat} {T : List Bool} (h : K2 w0 w s g T s2 g2) (k : Below w.heap.size w w') : K2 w0 w' s g T s2 g2 := ⟨h.k.below k, h.a.below k, h.sg, h.gg⟩
theorem K2.take {w0 w : World} {s g s2 g2 : Nat} {T T' : List Bool} {a er : Int} (h : K2 w0 w s g T s2 g2) (t : TkS T T' a er) : Calls Tryd.prog 8 #[.pointer (some ⟨s, 0, none⟩)] w fun e w' => e = .returned (.tuple #[.int .i64 a, .int .i64 er]) ∧ K2 w0 w' s g T' s2 g2 :=
  (h.k.take t).mono fun e w' ⟨he, hk, hg⟩ => ⟨he, hk, h.a.kept hg h.sg h.gg, h.sg, h.gg⟩
theorem K2.give {w0 w : World} {s g s2 g2 : Nat} {T T' : List Bool} {x er : Int} (h : K2 w0 w s g T s2 g2) (t : GvS T x T' er) : Calls Tryd.prog 10 #[.pointer (some ⟨s, 0, none⟩), .int .i64 x] w fun e w' => e = .returned (.int .i64 er) ∧ K2 w0 w' s g T' s2 g2 :=
  (h.k.give t).mono fun e w' ⟨he, hk, hg⟩ => ⟨he, hk, h.a.kept hg h.sg h.gg, h.sg, h.gg⟩
theorem tk1 : TkS [true, true, false] [true, true, true] 2 0 := Or.inl ⟨2, ⟨rfl, fun k hk => by match k, hk with | 0, _ => rfl | 1, _ => rfl⟩, rfl, rfl, rfl⟩
theorem tk2 : TkS [true, false, true] [true, true, true] 1 0 := Or.inl ⟨1, ⟨rfl, fun k hk => by match k, hk with | 0, _ => rfl⟩, rfl, rfl, rfl⟩
theorem gv1 : GvS [true, true, true] 1 [true, false, true] 0 := Or.inl ⟨1, rfl, rfl, rfl, rfl⟩
theorem gv2 : GvS [true, false, true] 1 [true, false, true] 91 := Or.inr ⟨fun k hk => by
  obtain rfl : k = 1 := by omega
  simp, rfl, rfl⟩
theorem gv3 : GvS [true, false, true] 3 [true, false, true] 91 := Or.inr ⟨fun k hk => by
  obtain rfl : k = 3 := by omega
  simp, rfl, rfl⟩
theorem gv4 : GvS [true, false, true] (-1) [true, false, true] 91 := Or.inr ⟨fun k hk => by omega, rfl, rfl⟩
theorem gv5 : GvS [true, false, true] 0 [false, false, true] 0 := Or.inl ⟨0, rfl, rfl, rfl, rfl⟩
theorem big_take : TkS (kt 1024 1024) (kt 1024 1024) 0 4 := Or.inr ⟨kt_full 1024, rfl, rfl, rfl⟩
theorem big_give : GvS (kt 1024 1024) 1023 ((kt 1024 1024).set 1023 false) 0 := Or.inl ⟨1023, rfl, kt_lo (by omega), rfl, rfl⟩
theorem big_none : GvS ((kt 1024 1024).set 1023 false) 1024 ((kt 1024 1024).set 1023 false) 91 := Or.inr ⟨fun k hk => by
  obtain rfl : k = 1024 := by omega
  rw [List.getElem?_eq_none (by rw [List.length_set, kt_len (by omega)]; omega)]
  simp, rfl, rfl⟩
theorem big_free : ((kt 1024 1024).length : Int) - (cT (kt 1024 1024) : Nat) = 0 := by rw [kt_len (by omega), kt_c]; rfl
set_option maxHeartbeats 4000000 in
theorem known_walk {w : World} (ht : Tb w) : Calls Tryd.prog 5 #[] w fun e w' => e = .returned (.bool true) ∧ Below w.heap.size w w' := by
  have HT : Hid (Tb w) := ht
  clear ht
  go_enter Tryd.func5, Tryd.ntmps5
  go_wp2_with fail
  refine (New_no (-1) (by omega) w).mono ?_
  rintro e w' ⟨rfl, hw⟩
  obtain rfl := hw.symm
  clear hw
  go_wp2_with fail
  refine (New_no 1025 (by omega) w).mono ?_
  rintro e w' ⟨rfl, hw⟩
  obtain rfl := hw.symm
  clear hw
  have C0 : Hid (Calls _ _ _ _ _) := k1_new (n := 1024) (by omega) (Below.refl w.heap.size w) HT.out
  go_wp2_with fail
  refine C0.out.mono ?_
  rintro e w1 ⟨s, g, rfl, hk, _, _, _⟩
  have H0 : Hid (K1 w w1 s g (kt 1024 0)) := hk
  clear hk C0 HT
  go_wp2
  go_loopw [7] (fun z wr => ∃ i : Nat, i ≤ 1024 ∧ z = .int .i64 i ∧ K1 w wr s g (kt 1024 i)) (fun z _ => 1024 - (intOf z).toNat)
  case atStart => exact ⟨0, by omega, rfl, H0.out⟩
  case round =>
    obtain ⟨i, hi, rfl, hk⟩ := hrel
    have HK : Hid (K1 w wr s g (kt 1024 i)) := hk
    clear hk H0
    by_cases hlt : i < 1024
    · have C1 : Hid (Calls _ _ _ _ _) := HK.out.take (kt_tk hlt)
      clear HK
      go_wp2_with fail
      refine C1.out.mono ?_
      rintro e wa ⟨rfl, hk, _⟩
      have HK1 : Hid (K1 w wa s g (kt 1024 (i + 1))) := hk
      clear hk C1
      go_wp2
      go_roundw
      case rel => exact ⟨i + 1, by omega, by go_num, HK1.out⟩
      case measure => simp [intOf]; omega
    · obtain rfl : i = 1024 := by omega
      have C1_ : Hid (Calls _ _ _ _ _) := HK.out.take big_take
      go_wp2_with fail
      refine C1_.out.mono ?_
      rintro e w1_ ⟨rfl, hk, _⟩
      have A1 : Hid (K1 w w1_ s g (kt 1024 1024)) := hk
      clear C1_ hk HK
      have C2_ : Hid (Calls _ _ _ _ _) := uFree A1.out.a big_free
      go_wp2_with fail
      refine C2_.out.mono ?_
      rintro e w2_ ⟨rfl, hb⟩
      have A2 : Hid (K1 w w2_ s g (kt 1024 1024)) := A1.out.below hb
      clear C2_ hb A1
      have C3_ : Hid (Calls _ _ _ _ _) := uUsed A2.out.a kt_c
      go_wp2_with fail
      refine C3_.out.mono ?_
      rintro e w3_ ⟨av, cv, rfl, hb⟩
      have A3 : Hid (K1 w w3_ s g (kt 1024 1024)) := A2.out.below hb
      clear C3_ hb A2
      have C4_ : Hid (Calls _ _ _ _ _) := A3.out.give big_give
      go_wp2_with fail
      refine C4_.out.mono ?_
      rintro e w4_ ⟨rfl, hk, _⟩
      have A4 : Hid (K1 w w4_ s g ((kt 1024 1024).set 1023 false)) := hk
      clear C4_ hk A3
      have C5_ : Hid (Calls _ _ _ _ _) := A4.out.give big_none
      go_wp2_with fail
      refine C5_.out.mono ?_
      rintro e w5_ ⟨rfl, hk, _⟩
      have A5 : Hid (Below w.heap.size w w5_) := hk.be
      have A5t : Hid (Tb w5_) := hk.tb
      clear C5_ hk A4
      have C6_ : Hid (Calls _ _ _ _ _) := k1_new (n := 0) (by omega) A5.out A5t.out
      go_wp2_with fail
      refine C6_.out.mono ?_
      rintro e w6_ ⟨s2, g2, rfl, hk, _, _, _⟩
      have A6 : Hid (K1 w w6_ s2 g2 []) := hk
      clear C6_ hk A5 A5t
      have C7_ : Hid (Calls _ _ _ _ _) := A6.out.take (T' := []) (a := 0) (er := 4) (Or.inr ⟨fun k hk => by simp at hk, rfl, rfl, rfl⟩)
      go_wp2_with fail
      refine C7_.out.mono ?_
      rintro e w7_ ⟨rfl, hk, _⟩
      have A7 : Hid (K1 w w7_ s2 g2 []) := hk
      clear C7_ hk A6
      have C8_ : Hid (Calls _ _ _ _ _) := k1_new (n := 3) (by omega) A7.out.be A7.out.tb
      go_wp2_with fail
      refine C8_.out.mono ?_
      rintro e w8_ ⟨s3, g3, rfl, hk, hs, hg, hb⟩
      have A8 : Hid (K2 w w8_ s3 g3 (kt 3 0) s2 g2) := ⟨hk, A7.out.a.below hb, by have := A7.out.a.lt; omega, by have := A7.out.a.lt; omega⟩
      clear C8_ hk hs hg hb A7
      have C9_ : Hid (Calls _ _ _ _ _) := A8.out.take (kt_tk (n := 3) (k := 0) (by omega))
      go_wp2_with fail
      refine C9_.out.mono ?_
      rintro e w9_ ⟨rfl, hk⟩
      have A9 : Hid (K2 w w9_ s3 g3 (kt 3 1) s2 g2) := hk
      clear C9_ hk A8
      have C10_ : Hid (Calls _ _ _ _ _) := A9.out.take (kt_tk (n := 3) (k := 1) (by omega))
      go_wp2_with fail
      refine C10_.out.mono ?_
      rintro e w10_ ⟨rfl, hk⟩
      have A10 : Hid (K2 w w10_ s3 g3 [true, true, false] s2 g2) := hk
      clear C10_ hk A9
      have C11_ : Hid (Calls _ _ _ _ _) := A10.out.take tk1
      go_wp2_with fail
      refine C11_.out.mono ?_
      rintro e w11_ ⟨rfl, hk⟩
      have A11 : Hid (K2 w w11_ s3 g3 [true, true, true] s2 g2) := hk
      clear C11_ hk A10
      have C12_ : Hid (Calls _ _ _ _ _) := A11.out.give gv1
      go_wp2_with fail
      refine C12_.out.mono ?_
      rintro e w12_ ⟨rfl, hk⟩
      have A12 : Hid (K2 w w12_ s3 g3 [true, false, true] s2 g2) := hk
      clear C12_ hk A11
      have C13_ : Hid (Calls _ _ _ _ _) := A12.out.give gv2
      go_wp2_with fail
      refine C13_.out.mono ?_
      rintro e w13_ ⟨rfl, hk⟩
      have A13 : Hid (K2 w w13_ s3 g3 [true, false, true] s2 g2) := hk
      clear C13_ hk A12
      have C14_ : Hid (Calls _ _ _ _ _) := A13.out.give gv3
      go_wp2_with fail
      refine C14_.out.mono ?_
      rintro e w14_ ⟨rfl, hk⟩
      have A14 : Hid (K2 w w14_ s3 g3 [true, false, true] s2 g2) := hk
      clear C14_ hk A13
      have C15_ : Hid (Calls _ _ _ _ _) := A14.out.give gv4
      go_wp2_with fail
      refine C15_.out.mono ?_
      rintro e w15_ ⟨rfl, hk⟩
      have A15 : Hid (K2 w w15_ s3 g3 [true, false, true] s2 g2) := hk
      clear C15_ hk A14
      have C16_ : Hid (Calls _ _ _ _ _) := aUsed A15.out.k.a
      go_wp2_with fail
      refine C16_.out.mono ?_
      rintro e w16_ ⟨v, rfl, hi, hb⟩
      have A16 : Hid (K2 w (w16_.alloc (.cells #[.int .i64 0, .int .i64 2] 3)) s3 g3 [true, false, true] s2 g2) := (A15.out.below hb).below (below1 _ _)
      have e2 : us [true, false, true] = [0, 2] := rfl
      rw [e2] at hi
      have CQ : Hid (Calls Tryd.prog 15 _ _ _) := EqInts_any (w := w16_.alloc (.cells #[.int .i64 0, .int .i64 2] 3)) (v1 := v) (v2 := .slice (some ⟨w16_.heap.size, 0, none⟩) 2 2) (L := [0, 2]) (by decide) (hi.lst.below (below1 _ _)) (lst_new w16_ [0, 2] 2)
      clear C16_ hi hb e2 A15
      have C17_ : Hid (Calls _ _ _ _ _) := CQ.out
      go_wp2_with fail
      refine C17_.out.mono ?_
      rintro e w17_ ⟨rfl, hb⟩
      have A17 : Hid (K2 w w17_ s3 g3 [true, false, true] s2 g2) := A16.out.below hb
      clear C17_ hb CQ A16
      have C18_ : Hid (Calls _ _ _ _ _) := uFree (x := 1) A17.out.k.a rfl
      go_wp2_with fail
      refine C18_.out.mono ?_
      rintro e w18_ ⟨rfl, hb⟩
      have A18 : Hid (K2 w w18_ s3 g3 [true, false, true] s2 g2) := A17.out.below hb
      clear C18_ hb A17
      have C19_ : Hid (Calls _ _ _ _ _) := A18.out.give gv5
      go_wp2_with fail
      refine C19_.out.mono ?_
      rintro e w19_ ⟨rfl, hk⟩
      have A19 : Hid (K2 w w19_ s3 g3 [false, false, true] s2 g2) := hk
      clear C19_ hk A18
      have C20_ : Hid (Calls _ _ _ _ _) := A19.out.take (T' := [true, false, true]) (a := 0) (er := 0) (Or.inl ⟨0, fr_first, rfl, rfl, rfl⟩)
      go_wp2_with fail
      refine C20_.out.mono ?_
      rintro e w20_ ⟨rfl, hk⟩
      have A20 : Hid (K2 w w20_ s3 g3 [true, false, true] s2 g2) := hk
      clear C20_ hk A19
      have C21_ : Hid (Calls _ _ _ _ _) := A20.out.take tk2
      go_wp2_with fail
      refine C21_.out.mono ?_
      rintro e w21_ ⟨rfl, hk⟩
      have A21 : Hid (K2 w w21_ s3 g3 [true, true, true] s2 g2) := hk
      clear C21_ hk A20
      go_wp2
      go_loopw [24, 25, 26] (fun p nb z wr => ∃ (i : Nat) (q : Option Addr), p = .pointer q ∧ nb = .bool true ∧ i ≤ 2 ∧ z = .int .i64 i ∧ NoS wr q ∧ K2 w wr s3 g3 [true, true, true] s2 g2) (fun _ _ z _ => 2 - (intOf z).toNat)
      case atStart => exact ⟨0, none, rfl, rfl, by omega, rfl, Or.inl rfl, A21.out⟩
      case round =>
        obtain ⟨i, q, rfl, rfl, hi, rfl, hq, hk⟩ := hrel
        have HQ : Hid (NoS wr q) := hq
        have HK : Hid (K2 w wr s3 g3 [true, true, true] s2 g2) := hk
        clear hq hk A21
        by_cases hlt : i < 2
        · have D1 : Hid (Calls _ _ _ _ _) := Take_no HQ.out
          have D2 : Hid (Calls _ _ _ _ _) := Give_no HQ.out 0
          have D3 : Hid (Calls _ _ _ _ _) := Free_no HQ.out
          have D4 : Hid (Calls _ _ _ _ _) := Used_no HQ.out
          have HN : Hid (NoS (wr.alloc (.cells #[.int .i64 0, .slice none 0 0] 46)) (some ⟨wr.heap.size, 0, none⟩)) := Or.inr ⟨_, rfl, blk_new wr [.int .i64 0, .slice none 0 0] 46⟩
          have HK2 : Hid (K2 w (wr.alloc (.cells #[.int .i64 0, .slice none 0 0] 46)) s3 g3 [true, true, true] s2 g2) := HK.out.below (below1 _ _)
          clear HQ HK
          go_wp2_with fail
          refine D1.out.mono ?_
          rintro e wz ⟨rfl, hw⟩
          obtain rfl := hw.symm
          clear hw D1
          go_wp2_with fail
          refine D2.out.mono ?_
          rintro e wz ⟨rfl, hw⟩
          obtain rfl := hw.symm
          clear hw D2
          go_wp2_with fail
          refine D3.out.mono ?_
          rintro e wz ⟨rfl, hw⟩
          obtain rfl := hw.symm
          clear hw D3
          go_wp2_with fail
          refine D4.out.mono ?_
          rintro e wz ⟨rfl, hw⟩
          obtain rfl := hw.symm
          clear hw D4
          go_wp2
          go_roundw
          case rel => exact ⟨i + 1, _, rfl, rfl, by omega, by go_num, HN.out, HK2.out⟩
          case measure => simp [intOf]; omega
        · obtain rfl : i = 2 := by omega
          have E1 : Hid (Calls _ _ _ _ _) := works_any HK.out.k.tb
          clear HQ
          go_wp2_with fail
          refine E1.out.mono ?_
          rintro e x1 ⟨rfl, hb⟩
          have HK2 : Hid (K2 w x1 s3 g3 [true, true, true] s2 g2) := HK.out.below hb
          have E2 : Hid (Calls _ _ _ _ _) := uFree (x := 0) HK2.out.a rfl
          clear hb E1 HK
          go_wp2_with fail
          refine E2.out.mono ?_
          rintro e x2 ⟨rfl, hb⟩
          have HBE : Hid (Below w.heap.size w x2) := bs HK2.out.k.be hb
          clear hb E2 HK2
          go_wp2
          go_ret
          exact ⟨rfl, HBE.out⟩
end Go.Proofs.YtncelpphbhcogaaDoor.Z
