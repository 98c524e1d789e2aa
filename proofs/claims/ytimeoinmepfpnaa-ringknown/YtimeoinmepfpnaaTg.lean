/- RingKnown: the chapter's examples, a full ring, rings that are none; no condition. -/
import Derived.Test.YtimeoinmepfpnaaTf
namespace Go.Proofs.Ytimeoinmepfpnaa.Ri
open Go.ChangeShapes Go.WideShapes Go.ChangeAt Go.RowKit
set_option linter.unusedVariables false
set_option maxRecDepth 8192

theorem full_zero : (0 : Int) ∈ sg 0 4096 := sg_mem.2 ⟨by omega, by omega⟩
theorem full_seven : (7 : Int) ∈ sg 0 4096 := sg_mem.2 ⟨by omega, by omega⟩
theorem full_not : (4096 : Int) ∉ sg 0 4096 := fun h => by have := sg_mem.1 h; omega
theorem full_taken : AdS (sg 0 4096) 0 (sg 0 4096) 91 := Or.inr (Or.inl ⟨by omega, full_zero, rfl, rfl⟩)
theorem full_mem : AdS (sg 0 4096) 4096 (sg 0 4096) 4 := Or.inr (Or.inr (Or.inl ⟨by omega, full_not, by rw [sg_len]; exact Nat.le_refl _, rfl, rfl⟩))
theorem full_rm : RmS (sg 0 4096) 7 ((sg 0 4096).erase 7) 0 := Or.inl ⟨full_seven, rfl, rfl⟩
theorem full_add : AdS ((sg 0 4096).erase 7) 4096 ((sg 0 4096).erase 7 ++ [4096]) 0 := Or.inr (Or.inr (Or.inr ⟨by omega, fun h => full_not (List.mem_of_mem_erase h), by rw [List.length_erase_of_mem full_seven, sg_len]; omega, rfl, rfl⟩))
set_option maxHeartbeats 20000000 in
theorem known_ok (W0 : World) : Calls Try.prog 6 #[] W0 fun e w' => e = .returned (.bool true) ∧ Below W0.heap.size W0 w' := by
  have C1 := three_kn W0
  go_enter Try.func6, Try.ntmps6
  go_wp2_with fail
  refine C1.mono ?_
  rintro e w1 ⟨p, g, rfl, k⟩
  have H : Hid (Kn W0 w1 p g [1, 2, 3]) := k
  clear C1 k
  have CX : Hid (Calls _ _ _ _ _) := H.out.list
  go_wp2_with fail
  refine CX.out.mono ?_
  rintro e w2 ⟨v, rfl, k, l⟩
  have H2 : Hid (Kn W0 w2 p g [1, 2, 3]) := k
  have CY : Hid (Calls Try.prog 14 #[v, .slice (some ⟨w2.heap.size, 0, none⟩) 3 3] (w2.alloc (.cells #[.int .i64 1, .int .i64 2, .int .i64 3] 3)) fun e w' => e = .returned (.bool true) ∧ Kn W0 w' p g [1, 2, 3]) := k.eq (by decide) l
  clear CX k l H
  go_wp2_with fail
  refine CY.out.mono ?_
  rintro e w3 ⟨rfl, k⟩
  have H : Hid (Kn W0 w3 p g [1, 2, 3]) := k
  clear CY k H2
  have CX : Hid (Calls Try.prog 18 #[.pointer (some ⟨p, 0, none⟩), .int .i64 (-1), .func (.func 23) #[] #[]] w3 fun e w' => e = .returned (.tuple #[.int .i64 1, .int .i64 1, .int .i64 0]) ∧ Kn W0 w' p g [2, 3, 1]) := H.out.nxt1 (k := 1) (by decide)
  go_wp2_with fail
  refine CX.out.mono ?_
  rintro e w4 ⟨rfl, k⟩
  have H2 : Hid (Kn W0 w4 p g [2, 3, 1]) := k
  clear CX k H
  have H : Hid _ := H2.out
  clear H2
  have CX : Hid (Calls Try.prog 18 #[.pointer (some ⟨p, 0, none⟩), .int .i64 (-1), .func (.func 23) #[] #[]] w4 fun e w' => e = .returned (.tuple #[.int .i64 2, .int .i64 1, .int .i64 0]) ∧ Kn W0 w' p g [3, 1, 2]) := H.out.nxt1 (k := 1) (by decide)
  go_wp2_with fail
  refine CX.out.mono ?_
  rintro e w5 ⟨rfl, k⟩
  have H2 : Hid (Kn W0 w5 p g [3, 1, 2]) := k
  clear CX k H
  have H : Hid _ := H2.out
  clear H2
  have CX : Hid (Calls _ _ _ _ _) := H.out.list
  go_wp2_with fail
  refine CX.out.mono ?_
  rintro e w6 ⟨v, rfl, k, l⟩
  have H2 : Hid (Kn W0 w6 p g [3, 1, 2]) := k
  have CY : Hid (Calls Try.prog 14 #[v, .slice (some ⟨w6.heap.size, 0, none⟩) 3 3] (w6.alloc (.cells #[.int .i64 3, .int .i64 1, .int .i64 2] 3)) fun e w' => e = .returned (.bool true) ∧ Kn W0 w' p g [3, 1, 2]) := k.eq (by decide) l
  clear CX k l H
  go_wp2_with fail
  refine CY.out.mono ?_
  rintro e w7 ⟨rfl, k⟩
  have H : Hid (Kn W0 w7 p g [3, 1, 2]) := k
  clear CY k H2
  have CX : Hid (Calls _ _ _ _ _) := H.out.add (x := 4) (L' := [3, 1, 2, 4]) (er := 0) (by omega) (Or.inr (Or.inr (Or.inr ⟨by decide, by decide, by decide, rfl, rfl⟩)))
  go_wp2_with fail
  refine CX.out.mono ?_
  rintro e w8 ⟨rfl, gx, k⟩
  have H2 : Hid (Kn W0 w8 p gx [3, 1, 2, 4]) := k
  clear CX k H
  have H : Hid _ := H2.out
  clear H2
  have CX : Hid (Calls _ _ _ _ _) := H.out.list
  go_wp2_with fail
  refine CX.out.mono ?_
  rintro e w9 ⟨v, rfl, k, l⟩
  have H2 : Hid (Kn W0 w9 p gx [3, 1, 2, 4]) := k
  have CY : Hid (Calls Try.prog 14 #[v, .slice (some ⟨w9.heap.size, 0, none⟩) 4 4] (w9.alloc (.cells #[.int .i64 3, .int .i64 1, .int .i64 2, .int .i64 4] 3)) fun e w' => e = .returned (.bool true) ∧ Kn W0 w' p gx [3, 1, 2, 4]) := k.eq (by decide) l
  clear CX k l H
  go_wp2_with fail
  refine CY.out.mono ?_
  rintro e w10 ⟨rfl, k⟩
  have H : Hid (Kn W0 w10 p gx [3, 1, 2, 4]) := k
  clear CY k H2
  have CX : Hid (Calls _ _ _ _ _) := H.out.rm (x := 3) (L' := [1, 2, 4]) (er := 0) (Or.inl ⟨by decide, by decide, rfl⟩)
  go_wp2_with fail
  refine CX.out.mono ?_
  rintro e w11 ⟨rfl, gxx, k⟩
  have H2 : Hid (Kn W0 w11 p gxx [1, 2, 4]) := k
  clear CX k H
  have H : Hid _ := H2.out
  clear H2
  have CX : Hid (Calls _ _ _ _ _) := H.out.list
  go_wp2_with fail
  refine CX.out.mono ?_
  rintro e w12 ⟨v, rfl, k, l⟩
  have H2 : Hid (Kn W0 w12 p gxx [1, 2, 4]) := k
  have CY : Hid (Calls Try.prog 14 #[v, .slice (some ⟨w12.heap.size, 0, none⟩) 3 3] (w12.alloc (.cells #[.int .i64 1, .int .i64 2, .int .i64 4] 3)) fun e w' => e = .returned (.bool true) ∧ Kn W0 w' p gxx [1, 2, 4]) := k.eq (by decide) l
  clear CX k l H
  go_wp2_with fail
  refine CY.out.mono ?_
  rintro e w13 ⟨rfl, k⟩
  have H : Hid (Kn W0 w13 p gxx [1, 2, 4]) := k
  clear CY k H2
  have CX : Hid (Calls _ _ _ _ _) := H.out.rm (x := 9) (L' := [1, 2, 4]) (er := 190) (Or.inr ⟨by decide, rfl, rfl⟩)
  go_wp2_with fail
  refine CX.out.mono ?_
  rintro e w14 ⟨rfl, gxxx, k⟩
  have H2 : Hid (Kn W0 w14 p gxxx [1, 2, 4]) := k
  clear CX k H
  have H : Hid _ := H2.out
  clear H2
  have CX : Hid (Calls _ _ _ _ _) := H.out.add (x := 4) (L' := [1, 2, 4]) (er := 91) (by omega) (Or.inr (Or.inl ⟨by decide, by decide, rfl, rfl⟩))
  go_wp2_with fail
  refine CX.out.mono ?_
  rintro e w15 ⟨rfl, gxxxx, k⟩
  have H2 : Hid (Kn W0 w15 p gxxxx [1, 2, 4]) := k
  clear CX k H
  have H : Hid _ := H2.out
  clear H2
  have CX : Hid (Calls _ _ _ _ _) := H.out.add (x := -1) (L' := [1, 2, 4]) (er := 2) (by omega) (Or.inl ⟨by decide, rfl, rfl⟩)
  go_wp2_with fail
  refine CX.out.mono ?_
  rintro e w16 ⟨rfl, gxxxxx, k⟩
  have H2 : Hid (Kn W0 w16 p gxxxxx [1, 2, 4]) := k
  clear CX k H
  have H : Hid _ := H2.out
  clear H2
  have CX : Hid (Calls _ _ _ _ _) := H.out.rm (x := -1) (L' := [1, 2, 4]) (er := 190) (Or.inr ⟨by decide, rfl, rfl⟩)
  go_wp2_with fail
  refine CX.out.mono ?_
  rintro e w17 ⟨rfl, gxxxxxx, k⟩
  have H2 : Hid (Kn W0 w17 p gxxxxxx [1, 2, 4]) := k
  clear CX k H
  have H : Hid _ := H2.out
  clear H2
  have CX : Hid (Calls Try.prog 18 #[.pointer (some ⟨p, 0, none⟩), .int .i64 (1), .func (.func 23) #[] #[]] w17 fun e w' => e = .returned (.tuple #[.int .i64 2, .int .i64 2, .int .i64 0]) ∧ Kn W0 w' p gxxxxxx [4, 1, 2]) := H.out.nxt1 (k := 2) (by decide)
  go_wp2_with fail
  refine CX.out.mono ?_
  rintro e w18 ⟨rfl, k⟩
  have H2 : Hid (Kn W0 w18 p gxxxxxx [4, 1, 2]) := k
  clear CX k H
  have H : Hid _ := H2.out
  clear H2
  have CX : Hid (Calls _ _ _ _ _) := H.out.nil (-1)
  go_wp2_with fail
  refine CX.out.mono ?_
  rintro e w19 ⟨rfl, k⟩
  have H2 : Hid (Kn W0 w19 p gxxxxxx [4, 1, 2]) := k
  clear CX k H
  have H : Hid _ := H2.out
  clear H2
  have CX : Hid (Calls _ _ _ _ _) := H.out.list
  go_wp2_with fail
  refine CX.out.mono ?_
  rintro e w20 ⟨v, rfl, k, l⟩
  have H2 : Hid (Kn W0 w20 p gxxxxxx [4, 1, 2]) := k
  have CY : Hid (Calls Try.prog 14 #[v, .slice (some ⟨w20.heap.size, 0, none⟩) 3 3] (w20.alloc (.cells #[.int .i64 4, .int .i64 1, .int .i64 2] 3)) fun e w' => e = .returned (.bool true) ∧ Kn W0 w' p gxxxxxx [4, 1, 2]) := k.eq (by decide) l
  clear CX k l H
  go_wp2_with fail
  refine CY.out.mono ?_
  rintro e w21 ⟨rfl, k⟩
  have H : Hid (Kn W0 w21 p gxxxxxx [4, 1, 2]) := k
  clear CY k H2
  have CX : Hid (Calls Try.prog 18 #[.pointer (some ⟨p, 0, none⟩), .int .i64 (-1), .func (.func 24) #[] #[]] w21 fun e w' => e = .returned (.tuple #[.int .i64 0, .int .i64 7, .int .i64 190]) ∧ Kn W0 w' p gxxxxxx [1, 2, 4]) := H.out.ev0 (k := 7) (by decide)
  go_wp2_with fail
  refine CX.out.mono ?_
  rintro e w22 ⟨rfl, k⟩
  have H2 : Hid (Kn W0 w22 p gxxxxxx [1, 2, 4]) := k
  clear CX k H
  have H : Hid _ := H2.out
  clear H2
  have CX : Hid (Calls _ _ _ _ _) := H.out.list
  go_wp2_with fail
  refine CX.out.mono ?_
  rintro e w23 ⟨v, rfl, k, l⟩
  have H2 : Hid (Kn W0 w23 p gxxxxxx [1, 2, 4]) := k
  have CY : Hid (Calls Try.prog 14 #[v, .slice (some ⟨w23.heap.size, 0, none⟩) 3 3] (w23.alloc (.cells #[.int .i64 1, .int .i64 2, .int .i64 4] 3)) fun e w' => e = .returned (.bool true) ∧ Kn W0 w' p gxxxxxx [1, 2, 4]) := k.eq (by decide) l
  clear CX k l H
  go_wp2_with fail
  refine CY.out.mono ?_
  rintro e w24 ⟨rfl, k⟩
  have H : Hid (Kn W0 w24 p gxxxxxx [1, 2, 4]) := k
  clear CY k H2
  have CX : Hid (Calls _ _ _ _ _) := new_kn H.out.bel
  go_wp2_with fail
  refine CX.out.mono ?_
  rintro e w25 ⟨p2, g2, rfl, k⟩
  have H2 : Hid (Kn W0 w25 p2 g2 []) := k
  clear CX k H
  have H : Hid _ := H2.out
  clear H2
  have CX : Hid (Calls Try.prog 18 #[.pointer (some ⟨p2, 0, none⟩), .int .i64 (-1), .func (.func 23) #[] #[]] w25 fun e w' => e = .returned (.tuple #[.int .i64 0, .int .i64 0, .int .i64 190]) ∧ Kn W0 w' p2 g2 []) := H.out.nxt0 (k := 0) (by decide)
  go_wp2_with fail
  refine CX.out.mono ?_
  rintro e w26 ⟨rfl, k⟩
  have H2 : Hid (Kn W0 w26 p2 g2 []) := k
  clear CX k H
  have H : Hid _ := H2.out
  clear H2
  have CX : Hid (Calls _ _ _ _ _) := new_kn H.out.bel
  go_wp2_with fail
  refine CX.out.mono ?_
  rintro e w27 ⟨p3, g3, rfl, k⟩
  have H2 : Hid (Kn W0 w27 p3 g3 []) := k
  clear CX k H
  have H : Hid _ := H2.out
  clear H2
  have CX : Hid (Calls _ _ _ _ _) := H.out.add (x := 5) (L' := [5]) (er := 0) (by omega) (Or.inr (Or.inr (Or.inr ⟨by decide, by decide, by decide, rfl, rfl⟩)))
  go_wp2_with fail
  refine CX.out.mono ?_
  rintro e w28 ⟨rfl, g3x, k⟩
  have H2 : Hid (Kn W0 w28 p3 g3x [5]) := k
  clear CX k H
  have H : Hid _ := H2.out
  clear H2
  have CX : Hid (Calls Try.prog 18 #[.pointer (some ⟨p3, 0, none⟩), .int .i64 (5), .func (.func 23) #[] #[]] w28 fun e w' => e = .returned (.tuple #[.int .i64 0, .int .i64 3, .int .i64 190]) ∧ Kn W0 w' p3 g3x [5]) := H.out.nxt0 (k := 3) (by decide)
  go_wp2_with fail
  refine CX.out.mono ?_
  rintro e w29 ⟨rfl, k⟩
  have H2 : Hid (Kn W0 w29 p3 g3x [5]) := k
  clear CX k H
  have H : Hid _ := H2.out
  clear H2
  have CX : Hid (Calls Try.prog 18 #[.pointer (some ⟨p3, 0, none⟩), .int .i64 (4), .func (.func 23) #[] #[]] w29 fun e w' => e = .returned (.tuple #[.int .i64 5, .int .i64 1, .int .i64 0]) ∧ Kn W0 w' p3 g3x [5]) := H.out.nxt1 (k := 1) (by decide)
  go_wp2_with fail
  refine CX.out.mono ?_
  rintro e w30 ⟨rfl, k⟩
  have H2 : Hid (Kn W0 w30 p3 g3x [5]) := k
  clear CX k H
  have H : Hid _ := H2.out
  clear H2
  have CX : Hid (Calls _ _ _ _ _) := new_kn H.out.bel
  go_wp2_with fail
  refine CX.out.mono ?_
  rintro e w31 ⟨p4, g4, rfl, k⟩
  have H2 : Hid (Kn W0 w31 p4 g4 []) := k
  clear CX k H
  have H : Hid _ := H2.out
  clear H2
  have H0 : Hid (Kn W0 w31 p4 g4 (sg 0 0)) := H.out
  clear H
  go_wp2_with fail
  go_loopw [29] (fun ti wr => ∃ (k g : Nat), ti = .int .i64 (k : Nat) ∧ k ≤ 4096 ∧ Kn W0 wr p4 g (sg 0 k)) (fun ti _ => 4096 - (intOf ti).toNat)
  case atStart => exact ⟨0, g4, rfl, by omega, H0.out⟩
  case round =>
    obtain ⟨k, g5, rfl, hk, hkn⟩ := hrel
    have HK : Hid (Kn W0 wr p4 g5 (sg 0 k)) := hkn
    have hk5 : k ≤ 5000 := by omega
    have HKK : Hid (k ≤ 4096) := hk
    clear H0 hkn hk
    by_cases hlt : k < 4096
    · have hd : decide ((k : Int) < 4096) = true := decide_eq_true (by omega)
      have HLT : Hid (k < 4096) := hlt
      have CX : Hid (Calls _ _ _ _ _) := HK.out.add (x := (k : Int)) (L' := sg 0 (k + 1)) (er := 0) (by omega) (sg_add hlt)
      clear hlt
      go_wp2_with fail
      refine CX.out.mono ?_
      rintro e w3 ⟨rfl, g6, k6⟩
      have H6 : Hid (Kn W0 w3 p4 g6 (sg 0 (k + 1))) := k6
      clear CX k6 HK
      go_wp2
      go_roundw
      case rel => exact ⟨k + 1, g6, by go_num, by have := HLT.out; omega, H6.out⟩
      case measure => simp [intOf]; have := HLT.out; omega
    · obtain rfl : k = 4096 := by have := HKK.out; omega
      clear hk5 HKK hlt
      have H : Hid (Kn W0 wr p4 g5 (sg 0 4096)) := HK.out
      clear HK
      have CX : Hid (Calls _ _ _ _ _) := H.out.add (by omega) full_taken
      go_wp2_with fail
      refine CX.out.mono ?_
      rintro e v1 ⟨rfl, f1, k⟩
      have H2 : Hid (Kn W0 v1 p4 f1 (sg 0 4096)) := k
      clear CX k H
      have H : Hid _ := H2.out
      clear H2
      have CX : Hid (Calls _ _ _ _ _) := H.out.add (by omega) full_mem
      go_wp2_with fail
      refine CX.out.mono ?_
      rintro e v2 ⟨rfl, f2, k⟩
      have H2 : Hid (Kn W0 v2 p4 f2 (sg 0 4096)) := k
      clear CX k H
      have H : Hid _ := H2.out
      clear H2
      have CX : Hid (Calls _ _ _ _ _) := H.out.rm full_rm
      go_wp2_with fail
      refine CX.out.mono ?_
      rintro e v3 ⟨rfl, f3, k⟩
      have H2 : Hid (Kn W0 v3 p4 f3 ((sg 0 4096).erase 7)) := k
      clear CX k H
      have H : Hid _ := H2.out
      clear H2
      have CX : Hid (Calls _ _ _ _ _) := H.out.add (by omega) full_add
      go_wp2_with fail
      refine CX.out.mono ?_
      rintro e v4 ⟨rfl, f4, k⟩
      have H2 : Hid (Kn W0 v4 p4 f4 ((sg 0 4096).erase 7 ++ [4096])) := k
      clear CX k H
      have H : Hid _ := H2.out
      clear H2
      have HB : Hid (Below W0.heap.size W0 v4) := H.out.bel
      clear H
      rename_i wr1
      go_wp2_with fail
      go_loopw [31, 32, 33] (fun tp tn tq wr => ∃ (ptr : Option Addr) (q : Nat), tp = .pointer ptr ∧ tn = .bool true ∧ tq = .int .i64 (q : Nat) ∧ q ≤ 2 ∧ NoR wr ptr ∧ Below W0.heap.size W0 wr) (fun _ _ tq _ => 2 - (intOf tq).toNat)
      case atStart => exact ⟨none, 0, rfl, rfl, rfl, by omega, Or.inl rfl, HB.out⟩
      case round =>
        clear HB
        obtain ⟨ptr, q, rfl, rfl, rfl, hq, hno, hb⟩ := hrel
        have HB : Hid (Below W0.heap.size W0 wr) := hb
        by_cases hq2 : q < 2
        · have D1 : Hid (Calls _ _ _ _ _) := Next_no hno 0 .nilFunc
          have D2 : Hid (Calls _ _ _ _ _) := Add_no hno (-1)
          have D3 : Hid (Calls _ _ _ _ _) := Remove_no hno 0
          have D4 : Hid (Calls _ _ _ _ _) := List_no hno
          clear hno hb
          go_wp2_with fail
          refine D1.out.mono ?_
          rintro e w' ⟨rfl, hw⟩
          obtain rfl := hw.symm
          clear D1
          go_wp2_with fail
          refine D2.out.mono ?_
          rintro e w' ⟨rfl, hw⟩
          obtain rfl := hw.symm
          clear D2
          go_wp2_with fail
          refine D3.out.mono ?_
          rintro e w' ⟨rfl, hw⟩
          obtain rfl := hw.symm
          clear D3
          go_wp2_with fail
          refine D4.out.mono ?_
          rintro e w' ⟨rfl, hw⟩
          obtain rfl := hw.symm
          clear D4
          go_wp2
          go_roundw
          case rel => exact ⟨_, q + 1, rfl, rfl, by go_num, by omega, Or.inr ⟨_, rfl, blk_new wr [.slice none 0 0, .int .i64 0] 53⟩, bs HB.out (below1 _ _)⟩
          case measure => simp [intOf]; omega
        · have CW := works_ok wr
          clear hno hb
          go_wp2_with fail
          refine CW.mono ?_
          rintro e w3 ⟨rfl, b3⟩
          have HZ : Hid (Below W0.heap.size W0 w3) := HB.out.trans (b3.mono HB.out.size)
          clear CW b3 HB
          go_wp2
          go_ret
          exact ⟨rfl, HZ.out⟩
end Go.Proofs.Ytimeoinmepfpnaa.Ri
