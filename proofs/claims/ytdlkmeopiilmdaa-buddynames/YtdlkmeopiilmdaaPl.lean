/- BuddyPlays: of every number of places and all calls the program answers as the reference does; no condition but the range of an int. -/
import Derived.Test.YtdlkmeopiilmdaaOp
namespace Go.Proofs.Ytdlkmeopiilmdaa
open Go.ChangeShapes Go.WideShapes Go.ChangeAt Go.RowKit
set_option linter.unusedVariables false

/-- A call in a box of its own. -/
def Box (w : World) (x : Nat) (K A O : Int) : Prop := x < w.heap.size ∧ w.cell? ⟨x, 0, none⟩ = some (.int .i64 K) ∧ w.cell? ⟨x, 1, none⟩ = some (.int .i64 A) ∧ w.cell? ⟨x, 2, none⟩ = some (.int .i64 O)
theorem Box.kept {P : Nat → Prop} {w w' : World} {x : Nat} {K A O : Int} (h : Box w x K A O) (k : Kp (NP P) (NP P) w w') (hx : P x) : Box w' x K A O := by
  have e := k.np hx h.1
  exact ⟨Nat.lt_of_lt_of_le h.1 k.size, (World.cell?_of_block (w := w) (a := ⟨x, 0, none⟩) e).trans h.2.1, (World.cell?_of_block (w := w) (a := ⟨x, 1, none⟩) e).trans h.2.2.1, (World.cell?_of_block (w := w) (a := ⟨x, 2, none⟩) e).trans h.2.2.2⟩
theorem box_new (w : World) (K A O : Int) : Box (w.alloc (.cells #[.int .i64 K, .int .i64 A, .int .i64 O] 34)) w.heap.size K A O := by
  have hb := blk_new w [.int .i64 K, .int .i64 A, .int .i64 O] 34
  exact ⟨hb.lt, hb.cell 0, hb.cell 1, hb.cell 2⟩
def okH (h : List (Int × Int)) : Prop := ∀ x ∈ h, 0 ≤ x.1 ∧ x.1 < 4096 ∧ 0 ≤ x.2 ∧ x.2 ≤ 6
/-- What the loop has. -/
def Pst (w wr : World) (N p q : Nat) (v : Value) (i : Nat) : Prop := ∃ L tk op h, Two (fun k => k < w.heap.size) wr N p q v L tk op tk h ∧ St N op L tk ∧ okH h ∧ h.length ≤ i ∧ Below w.heap.size w wr
/-- What a round has behind its call. -/
def Mst (P : Nat → Prop) (w wr : World) (N p q : Nat) (v : Value) (i : Nat) : Prop := ∃ L tk op h, Two P wr N p q v L tk op tk h ∧ St N op L tk ∧ okH h ∧ h.length ≤ i ∧ Below w.heap.size w wr
theorem Mst.done {P : Nat → Prop} {w wr W : World} {N p q : Nat} {v : Value} {i : Nat} (h : Mst P w wr N p q v i) (hP : ∀ k, k < w.heap.size → P k) (hW : wr.grownBy W none) : Pst w W N p q v i := by
  obtain ⟨L7, tk7, op7, h7, T7, S7, ok7, hl7, hb7⟩ := h
  exact ⟨L7, tk7, op7, h7, ((T7.new hW).1).less hP, S7, ok7, hl7, hb7.trans (below_of hW _ hb7.size (by simp))⟩
theorem plays_no (w : World) (n : Int) (hn : n < 0 ∨ 4096 < n) (v : Value) : Calls Try.prog 3 #[.int .i64 n, v] w fun e w' => e = .returned (.bool true) ∧ Below w.heap.size w w' := by
  have C1 : Hid (Calls _ _ _ _ _) := New_no n hn w
  have C2 : Hid (Calls _ _ _ _ _) := rNew_no n hn w
  have C3 : Hid (Calls _ _ _ _ _) := awake_ok w
  clear hn
  go_enter Try.func3, Try.ntmps3
  go_wp2_with (first | (go_at_call 7; refine C1.out.mono ?_; rintro e w' ⟨rfl, h⟩; obtain rfl := h.symm) | (go_at_call 8; refine C2.out.mono ?_; rintro e w' ⟨rfl, h⟩; obtain rfl := h.symm) | (go_at_call 9; refine C3.out.mono ?_; rintro e w4 ⟨rfl, g4⟩))
  go_ret
  exact ⟨rfl, below_of g4 _ (Nat.le_refl _) (by simp)⟩
set_option maxRecDepth 100000 in
set_option maxHeartbeats 4000000 in
theorem plays_ok (w : World) (N : Nat) (hN : N ≤ 4096) (ao : Option Addr) (len cap : Nat) (hl : len ≤ maxLen) (hd : Dos w ao len) : Calls Try.prog 3 #[.int .i64 N, .slice ao len cap] w fun e w' => e = .returned (.bool true) ∧ Below w.heap.size w w' := by
  have C1 : Hid (Calls _ _ _ _ _) := New_ok N hN w
  have HD : Hid (Dos w ao len) := hd
  unfold maxLen at hl
  clear hd
  go_enter Try.func3, Try.ntmps3
  go_wp2_with fail
  refine C1.out.mono ?_
  rintro e w1 ⟨G, p, rfl, B1, K1⟩
  have HB1 : Hid (Bu w1 G p (nwL N) (fun _ => none)) := B1
  have HK1 : Hid (Kp (fun _ => False) G w w1) := K1
  have C2 : Hid (Calls _ _ _ _ _) := rNew_ok N hN w1
  clear B1 K1 C1
  go_wp2_with fail
  refine C2.out.mono ?_
  rintro e w2 ⟨H, q, rfl, R2, K2⟩
  have HP0 : Hid (Pst w w2 N p q (.slice none 0 0) 0) := by
    have k1 := HK1.out
    have b2 := HB1.out.kept K2 (fun k _ z => z)
    refine ⟨nwL N, fun _ => none, op0 N, [], ⟨G, H, b2, R2, Hd.nil _, fun k h1 h2 => ?_, (fun k _ z => by cases z), (fun k _ z => by cases z), fun k hk => ⟨fun z => ?_, fun z => ?_, (fun z => by cases z), ?_⟩⟩, St.new N, (fun x hx => by simp at hx), Nat.zero_le _, ?_⟩
    · rcases K2.new k h2 with z | z
      · exact z
      · have := HB1.out.lt k h1; omega
    · rcases k1.new k z with y | y
      · exact y
      · omega
    · rcases K2.new k z with y | y
      · exact y
      · have := k1.size; omega
    · have := k1.size; have := K2.size; omega
    · have := k1.below w.heap.size (Nat.le_refl _) (fun k z => z.elim)
      exact this.trans ((K2.below w.heap.size k1.size (fun k z => z.elim)))
  clear C2 R2 K2 HB1 HK1
  go_wp2_with fail
  go_loopw [9, 10] (fun y z wr => ∃ i : Nat, i ≤ len ∧ i ≤ 200 ∧ z = .int .i64 i ∧ ∃ v, v = y ∧ Pst w wr N p q v i) (fun _ z _ => 200 - (iv z).toNat)
  case atStart => exact ⟨0, by omega, by omega, rfl, _, rfl, HP0.out⟩
  case round =>
    obtain ⟨i, hi, hi2, rfl, v, rfl, hP⟩ := hrel
    obtain ⟨L, tk, op, h, T, S, ok, hlen, hbw⟩ := hP
    have HT : Hid (Two (fun k => k < w.heap.size) wr N p q v L tk op tk h) := T
    have HS : Hid (St N op L tk) := S
    have HO : Hid (okH h) := ok
    have HBW : Hid (Below w.heap.size w wr) := hbw
    clear T S ok hbw HP0
    by_cases hgo : i < len ∧ i < 200
    · obtain ⟨g1, g2⟩ := hgo
      obtain ⟨b, off, K, A, O, rfl, hb, d0, d1, d2, rK, rA, rO⟩ := HD.out i g1
      have c0 := (HBW.out.cell (p := ⟨b, off + i * 3, none⟩) hb).trans d0
      have c1 := (HBW.out.cell (p := ⟨b, off + i * 3 + 1, none⟩) hb).trans d1
      have c2 := (HBW.out.cell (p := ⟨b, off + i * 3 + 2, none⟩) hb).trans d2
      have g1I : (i : Int) < (len : Int) := by omega
      have g2I : (i : Int) < 200 := by omega
      clear d0 d1 d2
      obtain ⟨x, hx⟩ : ∃ x, x = wr.heap.size := ⟨_, rfl⟩
      obtain ⟨P, hPd⟩ : ∃ P : Nat → Prop, P = fun k => k < w.heap.size ∨ k = wr.heap.size := ⟨_, rfl⟩
      have HPX : Hid (P x) := by rw [hPd, hx]; exact Or.inr rfl
      have HPB : Hid (∀ k, k < w.heap.size → P k) := fun k hk => by rw [hPd]; exact Or.inl hk
      have HT1 : Hid (Two P (wr.alloc (.cells #[.int .i64 K, .int .i64 A, .int .i64 O] 34)) N p q v L tk op tk h) := by
        rw [hPd]
        exact HT.out.more (World.grownBy_alloc _ _ none) (by simp)
      have HX1 : Hid (Box (wr.alloc (.cells #[.int .i64 K, .int .i64 A, .int .i64 O] 34)) x K A O) := by rw [hx]; exact box_new _ _ _ _
      have HB1 : Hid (Below w.heap.size w (wr.alloc (.cells #[.int .i64 K, .int .i64 A, .int .i64 O] 34))) := HBW.out.trans ((Below.refl _ wr).alloc HBW.out.size _)
      have CW : Hid (∀ W, Calls Try.prog 10 #[.int .i64 K, .int .i64 3] W fun e w' => e = .returned (.int .i64 (K % 3)) ∧ w' = W) := fun W => within_any K 3 (by omega) (by omega) rK.1 rK.2 W
      have hKB : Hid (∀ w3, Kp (NP P) (NP P) (wr.alloc (.cells #[.int .i64 K, .int .i64 A, .int .i64 O] 34)) w3 → Below w.heap.size w w3) := fun w3 k => HB1.out.trans (k.below w.heap.size HB1.out.size (fun c hc => by
        by_cases z : c < w.heap.size
        · exact absurd (HPB.out c z) hc
        · omega))
      have HRA : Hid (-9223372036854775808 ≤ A ∧ A < 9223372036854775808) := rA
      clear hPd HT rK rA rO
      go_wp2_with fail
      refine (CW.out _).mono ?_
      rintro e w1 ⟨rfl, hw1⟩
      obtain rfl := hw1.symm
      generalize hwa : wr.alloc (.cells #[.int .i64 K, .int .i64 A, .int .i64 O] 34) = wa at *
      rw [← hx]
      clear hwa c0 c1 c2 hx
      by_cases hk0 : K % 3 = 0
      case' pos =>
        obtain ⟨a, e, op', L', tk', T2⟩ := take_both HS.out hN O
        have HT2 : Hid (Tk2 N op L tk O a e op' L' tk') := T2
        obtain ⟨hra1, hra2⟩ := T2.ra
        obtain ⟨hre1, hre2⟩ := T2.re
        obtain ⟨hx0, x0, x1, x2⟩ := HX1.out
        obtain ⟨G, H, a1, a2, a3, a4, a5, a6, a7⟩ := HT1.out
        have CT : Hid (Calls _ _ _ _ _) := T2.prog wa G p a1
        have HN3 : Hid (∀ w3 G' , Bu w3 G' p L' tk' → Kp G G' wa w3 → Two P w3 N p q v L' tk' op tk h ∧ Kp (NP P) (NP P) wa w3) := fun w3 G' b k => Two.prog a1.lt a2 a3 a4 a5 a6 a7 b k
        clear a1 a2 a3 a4 a5 a6 a7 T2 HT1 hx0
        rw [hk0]
        go_wp2_with fail
        refine CT.out.mono ?_
        rintro en w3 ⟨rfl, G', b3, k3⟩
        obtain ⟨t3, kp3⟩ := HN3.out w3 G' b3 k3
        have HKP3 : Hid (Kp (NP P) (NP P) wa w3) := kp3
        have HX3 : Hid (Box w3 x K A O) := HX1.out.kept kp3 HPX.out
        obtain ⟨hx0, y0, y1, y2⟩ := HX3.out
        obtain ⟨G, H, a1, a2, a3, a4, a5, a6, a7⟩ := t3
        have CR : Hid (Calls _ _ _ _ _) := HT2.out.ref w3 H q a2
        have HN4 : Hid (∀ w4, Re w4 H q N op' tk' → Kp H H w3 w4 → Two P w4 N p q v L' tk' op' tk' h ∧ Kp (NP P) (NP P) w3 w4) := fun w4 b k => Two.ref a1 a3 a4 a5 a6 a7 b k
        clear a1 a2 a3 a4 a5 a6 a7 kp3 b3 k3 CT HN3 x0 x1 x2 HX1 hx0
        go_wp2_with fail
        refine CR.out.mono ?_
        rintro en w4 ⟨rfl, r4, k4⟩
        obtain ⟨t4, kp4⟩ := HN4.out w4 r4 k4
        have HKP4 : Hid (Kp (NP P) (NP P) wa w4) := HKP3.out.trans kp4
        have HX4 : Hid (Box w4 x K A O) := HX3.out.kept kp4 HPX.out
        have HT4 : Hid (Two P w4 N p q v L' tk' op' tk' h) := t4
        have HS4 : Hid (St N op' L' tk') := HT2.out.st
        obtain ⟨hx0, z0, z1, z2⟩ := HX4.out
        clear t4 kp4 r4 k4 CR HN4 y0 y1 y2 HX3 hx0 HKP3
        rcases Classical.em (e = 0) with he | he
        case' inl =>
          subst he
          obtain ⟨_, _, ho1, ho2⟩ := HT2.out.ok rfl
          obtain ⟨i0, hi0, hz0, hz1, hz2⟩ := info_parts Try.infoH
          have HUW : Hid (∀ W, Below w4.heap.size w4 W → W.ownsRow 0 38 2 v h.length (hv h)) := fun W hW => by
            obtain ⟨_, _, _, _, a3, _⟩ := HT4.out
            exact a3.of_eq (fun g hg => hW.block g (a3.lt g hg))
          go_wp2_with (at_builtin; refine wpList_append_lies _ rfl (.tmp 84) (.tmp 89) 32 rfl 0 38 i0 _ 2 16 Try.underlying32 hi0 hz0 hz1 hz2 rfl (by decide) v h.length (hv h) rfl (HUW.out _ ((Below.refl _ w4).alloc (Nat.le_refl _) _)) ⟨w4.heap.size, 0, none⟩ 1 1 (pc (a, O)) rfl rfl (news_pair w4 a O) (pc_one _) (by omega) (by unfold maxLen; omega) (by omega) (Nat.zero_le _) (w4.heap.size + 1) (by simp) ?_; intro g3 k3 w5 o3 gr3 at3 lt3)
          have HM : Hid (Mst P w w5 N p q (.slice (some ⟨g3, 0, none⟩) (h.length + 1) k3) (i + 1)) := by
            have hd5 : Hd w5 (.slice (some ⟨g3, 0, none⟩) (h.length + 1) k3) (h ++ [(a, O)]) := by
              unfold Hd
              rw [hv_app, List.length_append]
              exact o3
            obtain ⟨t5, kp5⟩ := HT4.out.held ((World.grownBy_alloc w4 _ _).trans gr3) hd5 (fun c hc => by
              obtain rfl : g3 = c := by simpa [Value.ownBlock] using hc
              rcases at3 with z | z
              · exact Or.inl z
              · exact Or.inr (by omega))
            refine ⟨L', tk', op', h ++ [(a, O)], t5, HS4.out, fun y hy => ?_, by rw [List.length_append]; exact Nat.succ_le_succ hlen, hKB.out _ (HKP4.out.trans kp5)⟩
            rcases List.mem_append.1 hy with z | z
            · exact HO.out y z
            · rw [List.mem_singleton] at z
              subst z
              exact ⟨hra1, hra2, ho1, ho2⟩
          clear o3 gr3 at3 lt3 HUW HT4 HKP4 HX4 hKB HT2 HS4 z0 z1 z2 HS HO HRA CW HB1 HBW HPX hlen
          generalize Value.slice (some ⟨g3, 0, none⟩) (h.length + 1) k3 = vq at *
          obtain ⟨wq, hwq⟩ : ∃ wq, wq = w5 := ⟨_, rfl⟩
          subst hwq
          generalize Value.int .i64 a = X1 at *
        case' inr =>
          have hb0 : (e == 0) = false := by simpa using he
          go_wp2_with fail
          have HM : Hid (Mst P w w4 N p q v (i + 1)) := ⟨L', tk', op', h, HT4.out, HS4.out, HO.out, by omega, hKB.out _ HKP4.out⟩
          clear HT4 HKP4 HX4 hKB HT2 HS4 z0 z1 z2 HS HO HRA CW HB1 HBW HPX hlen
          obtain ⟨wq, hwq⟩ : ∃ wq, wq = w4 := ⟨_, rfl⟩
          subst hwq
          obtain ⟨vq, hvq⟩ : ∃ vq, vq = v := ⟨_, rfl⟩
          subst hvq
      case' neg =>
        obtain ⟨G0, H0, _, _, a3, _⟩ := HT1.out
        obtain ⟨av, cv, hv⟩ := a3.len
        subst hv
        obtain ⟨hx0, x0, x1, x2⟩ := HX1.out
        obtain ⟨m, hm⟩ : ∃ m, h.length = m := ⟨_, rfl⟩
        have HM0 : Hid (h.length = m) := hm
        rw [hm] at hlen HT1 ⊢
        clear hm a3 hx0
        have hb0 : (K % 3 == 0) = false := by simpa using hk0
        rcases Classical.em (K % 3 = 2 ∧ 0 < m) with hk2 | hk2
        case' inl =>
          obtain ⟨hk2, hm0⟩ := hk2
          have hm0I : (0 : Int) < (m : Int) := by omega
          have CWA : Hid (∀ W, Calls Try.prog 10 #[.int .i64 A, .int .i64 m] W fun e w' => e = .returned (.int .i64 (A % m)) ∧ w' = W) := fun W => within_any A m hm0I (by omega) HRA.out.1 HRA.out.2 W
          obtain ⟨j, hj⟩ : ∃ j : Nat, A % m = j := ⟨(A % m).toNat, by have := Int.emod_nonneg A (show (m : Int) ≠ 0 by omega); omega⟩
          have hjm : j < m := by have := Int.emod_lt_of_pos A hm0I; omega
          rw [hj] at CWA
          have hjI : (j : Int) < (m : Int) := by omega
          have hj0 : (0 : Int) ≤ (j : Int) := by omega
          obtain ⟨y, hy⟩ : ∃ y, h[j]? = some y := ⟨_, List.getElem?_eq_getElem (by rw [HM0.out]; exact hjm)⟩
          obtain ⟨AT, OD⟩ := y
          have HY : Hid (h[j]? = some (AT, OD)) := hy
          have HYB : Hid (AT < 9223372036854775808) := by
            have := HO.out _ (List.mem_of_getElem? hy)
            exact Int.lt_trans this.2.1 (by omega)
          have hCW := CW.out
          rw [hk2] at hCW
          have HCW2 : Hid (∀ W, Calls Try.prog 10 #[.int .i64 K, .int .i64 3] W fun e w' => e = .returned (.int .i64 2) ∧ w' = W) := hCW
          clear hj hy hCW
          rw [hk2]
          go_wp2_with fail
          go_quiet (fail)
          have HT2 : Hid (Two P (wa.drewN nq) N p q (.slice av m cv) L tk op tk h) := (HT1.out.new (grown_drewN _ _ _)).1
          have HK2 : Hid (Kp (NP P) (NP P) wa (wa.drewN nq)) := (HT1.out.new (grown_drewN _ _ _)).2
          have HX2 : Hid (Box (wa.drewN nq) x K A O) := HX1.out.kept HK2.out HPX.out
          clear x0 x1 x2
          generalize wa.drewN nq = wc at *
          obtain ⟨hx0, x0, x1, x2⟩ := HX2.out
          clear hx0
          go_wp2_with fail
          refine (HCW2.out _).mono ?_
          rintro e w3 ⟨rfl, h3⟩
          obtain rfl := h3.symm
          go_wp2_with fail
          refine (CWA.out _).mono ?_
          rintro e w4 ⟨rfl, h4⟩
          obtain rfl := h4.symm
          obtain ⟨g5, k5, e5, l5, d5, d6⟩ := (show ∃ g cap, Value.slice av m cv = .slice (some ⟨g, 0, none⟩) h.length cap ∧ g < wc.heap.size ∧ wc.cell? ⟨g, j * 2, none⟩ = some (.int .i64 AT) ∧ wc.cell? ⟨g, j * 2 + 1, none⟩ = some (.int .i64 OD) by
            obtain ⟨_, _, _, _, a3, _⟩ := HT2.out
            exact a3.cell HY.out)
          rw [HM0.out] at e5
          cases e5
          go_wp2_with fail
          go_quiet (fail)
          have HTb : Hid (Two P (wc.drewN nq) N p q (.slice (some ⟨g5, 0, none⟩) m cv) L tk op tk h) := (HT2.out.new (grown_drewN _ _ _)).1
          have HKb : Hid (Kp (NP P) (NP P) wa (wc.drewN nq)) := HK2.out.trans (HT2.out.new (grown_drewN _ _ _)).2
          clear x0 x1 x2 d5 d6 HT2 HK2 HX2 HX1 HT1 CWA HCW2 HY
          generalize wc.drewN nq = wb at *
          go_wp2_with fail
        case' inr =>
          have HYB : Hid (A < 9223372036854775808) := HRA.out.2
          obtain ⟨AT, hAT⟩ : ∃ AT, AT = A := ⟨_, rfl⟩
          subst hAT
          obtain ⟨OD, hOD⟩ : ∃ OD, OD = O := ⟨_, rfl⟩
          subst hOD
          obtain ⟨k3, hk3⟩ : ∃ k3, K % 3 = k3 := ⟨_, rfl⟩
          rw [hk3] at hb0 hk2 CW ⊢
          clear hk3 hk0
          go_wp2_with fail
          go_quiet (fail)
          have HT2 : Hid (Two P (wa.drewN nq) N p q (.slice av m cv) L tk op tk h) := (HT1.out.new (grown_drewN _ _ _)).1
          have HK2 : Hid (Kp (NP P) (NP P) wa (wa.drewN nq)) := (HT1.out.new (grown_drewN _ _ _)).2
          have HX2 : Hid (Box (wa.drewN nq) x K AT OD) := HX1.out.kept HK2.out HPX.out
          clear x0 x1 x2
          generalize wa.drewN nq = wb at *
          obtain ⟨hx0, x0, x1, x2⟩ := HX2.out
          have HTb : Hid (Two P wb N p q (.slice av m cv) L tk op tk h) := HT2.out
          have HKb : Hid (Kp (NP P) (NP P) wa wb) := HK2.out
          clear hx0 HT2 HK2 HX2 HX1 HT1
          go_wp2_with fail
          refine (CW.out _).mono ?_
          rintro e w3 ⟨rfl, h3⟩
          obtain rfl := h3.symm
          rcases Classical.em (k3 = 2) with hk3 | hk3
          case' inl =>
            subst hk3
            obtain rfl : m = 0 := by omega
            go_wp2_with fail
          case' inr =>
            have hb2 : (k3 == 2) = false := by simpa using hk3
            go_wp2_with fail
          all_goals (clear x0 x1 x2)
        all_goals (
          obtain ⟨e, op', tk', T2⟩ := give_both HS.out hN AT OD HYB.out
          have HT2 : Hid (Gv2 N op L tk AT OD e op' tk') := T2
          obtain ⟨hre1, hre2⟩ := T2.re
          obtain ⟨G, H, a1, a2, a3, a4, a5, a6, a7⟩ := HTb.out
          have CT : Hid (Calls _ _ _ _ _) := T2.prog wb G p a1
          have HN3 : Hid (∀ w3 G' L', Bu w3 G' p L' tk' → Kp G G' wb w3 → Two P w3 N p q _ L' tk' op tk h ∧ Kp (NP P) (NP P) wb w3) := fun w3 G' L' b k => Two.prog a1.lt a2 a3 a4 a5 a6 a7 b k
          clear a1 a2 a3 a4 a5 a6 a7 T2
          refine CT.out.mono ?_
          rintro en w3 ⟨rfl, L', G', st3, b3, k3'⟩
          obtain ⟨t3, kp3⟩ := HN3.out w3 G' L' b3 k3'
          have HKP3 : Hid (Kp (NP P) (NP P) wa w3) := HKb.out.trans kp3
          have HS4 : Hid (St N op' L' tk') := st3
          obtain ⟨G, H, a1, a2, a3, a4, a5, a6, a7⟩ := t3
          have CR : Hid (Calls _ _ _ _ _) := HT2.out.ref w3 H q a2
          have HN4 : Hid (∀ w4, Re w4 H q N op' tk' → Kp H H w3 w4 → Two P w4 N p q _ L' tk' op' tk' h ∧ Kp (NP P) (NP P) w3 w4) := fun w4 b k => Two.ref a1 a3 a4 a5 a6 a7 b k
          clear a1 a2 a3 a4 a5 a6 a7 kp3 b3 k3' st3 CT HN3 HTb HKb
          go_wp2_with fail
          refine CR.out.mono ?_
          rintro en w4 ⟨rfl, r4, k4⟩
          obtain ⟨t4, kp4⟩ := HN4.out w4 r4 k4
          have HKP4 : Hid (Kp (NP P) (NP P) wa w4) := HKP3.out.trans kp4
          have HT4 : Hid (Two P w4 N p q _ L' tk' op' tk' h) := t4
          obtain ⟨_, _, _, _, a3, _⟩ := t4
          have CD : Hid (Calls _ _ _ _ _) := dropped_ok a3 (by rw [HM0.out]; omega) AT
          clear a3 kp4 r4 k4 CR HN4 HKP3 HT2
          rcases Classical.em (e = 0) with he | he
          case' inl =>
            subst he
            go_wp2_with fail
            refine CD.out.mono ?_
            rintro en w5 ⟨v5, h5, rfl, hd5, hs5, hl5, g5', n5⟩
            have HM : Hid (Mst P w w5 N p q v5 (i + 1)) := by
              obtain ⟨t5, kp5⟩ := HT4.out.held (grown_row g5' _) hd5 n5
              exact ⟨L', tk', op', h5, t5, HS4.out, fun y hy => HO.out y (hs5 y hy), by rw [HM0.out] at hl5; omega, hKB.out _ (HKP4.out.trans kp5)⟩
            clear hd5 hs5 hl5 g5' n5 CD HT4 HS4 HKP4 hKB HS HO HRA CW HB1 HBW HPX HYB HM0
            go_wp2_with fail
            obtain ⟨wq, hwq⟩ : ∃ wq, wq = w5 := ⟨_, rfl⟩
            subst hwq
            obtain ⟨vq, hvq⟩ : ∃ vq, vq = v5 := ⟨_, rfl⟩
            subst hvq
          case' inr =>
            have hbe : (e == 0) = false := by simpa using he
            have HM : Hid (Mst P w w4 N p q _ (i + 1)) := ⟨L', tk', op', h, HT4.out, HS4.out, HO.out, by rw [HM0.out]; omega, hKB.out _ HKP4.out⟩
            clear CD HT4 HS4 HKP4 hKB HS HO HRA CW HB1 HBW HPX HYB
            go_wp2_with fail
            obtain ⟨wq, hwq⟩ : ∃ wq, wq = w4 := ⟨_, rfl⟩
            subst hwq)
      all_goals (
        obtain ⟨L6, tk6, op6, h6, T6, S6, ok6, hl6, hb6⟩ := HM.out
        obtain ⟨G6, H6, a1, a2, _⟩ := T6
        obtain ⟨go, gt, rb, _⟩ := a2
        have CF : Hid (Calls _ _ _ _ _) := Free_any a1 (S6.len hN)
        have CRF : Hid (Calls _ _ _ _ _) := rFree_any rb
        rw [S6.cn] at CRF
        have CWH : Hid (Calls _ _ _ _ _) := Whole_any a1
        have CRW : Hid (Calls _ _ _ _ _) := rWhole_any rb
        have HWI : Hid ((∀ y, tk6 y = none) ↔ cnt op6 N = N) := S6.whole
        have CLI : Hid (∀ W, wq.grownBy W none → Calls Try.prog 20 #[.pointer (some ⟨p, 0, none⟩), .pointer (some ⟨q, 0, none⟩)] W fun e w' => e = .returned (.bool true) ∧ W.grownBy w' none) := fun W hW => lists_ok (a1.none hW) (rb.of_eq hW.size (hW.block q rb.ql (by simp)) (hW.block go rb.ol (by simp)) (hW.block gt rb.tl (by simp))) S6
        have HME : Hid (∀ W, wq.grownBy W none → Pst w W N p q _ (i + 1)) := fun W hW => Mst.done HM.out HPB.out hW
        clear a1 rb S6 ok6 hl6 hb6 HM HPB
        generalize fr L6 = R at *
        have hRI : ((R : Int) != (R : Int)) = false := by simp
        refine CF.out.mono ?_
        rintro e w7 ⟨rfl, h7⟩
        obtain rfl := h7.symm
        go_wp2_with fail
        refine CRF.out.mono ?_
        rintro e w8 ⟨rfl, h8⟩
        obtain rfl := h8.symm
        go_wp2_with fail
        refine CWH.out.mono ?_
        rintro e w9 ⟨r, rfl, hr, h9⟩
        obtain rfl := h9.symm
        go_wp2_with fail
        refine CRW.out.mono ?_
        rintro e w10 ⟨rfl, g10⟩
        have hrr : decide (cnt op6 N = N) = r := by
          rw [Bool.eq_iff_iff]
          simp only [decide_eq_true_eq]
          rw [← HWI.out]
          exact hr.symm
        rw [hrr]
        have HG10 : Hid (wq.grownBy w10 none) := g10
        clear CF CRF CWH CRW HWI hr hrr g10
        by_cases h300 : N ≤ 300
        · have h300I : (N : Int) ≤ 300 := by omega
          go_wp2_with fail
          refine (CLI.out w10 HG10.out).mono ?_
          rintro e w11 ⟨rfl, g11⟩
          have HPQ : Hid (Pst w w11 N p q _ (i + 1)) := HME.out w11 (HG10.out.trans g11)
          clear g11 CLI HME HG10
          go_wp2
          exact ⟨⟨i + 1, by omega, by omega, by go_num, _, rfl, HPQ.out⟩, by simp [iv]; omega⟩
        · have h300I : ¬ ((N : Int) ≤ 300) := by omega
          have HPQ : Hid (Pst w w10 N p q _ (i + 1)) := HME.out w10 HG10.out
          clear CLI HME HG10
          go_wp2
          exact ⟨⟨i + 1, by omega, by omega, by go_num, _, rfl, HPQ.out⟩, by simp [iv]; omega⟩)
    · have CL : Hid (Calls Try.prog 20 #[.pointer (some ⟨p, 0, none⟩), .pointer (some ⟨q, 0, none⟩)] wr fun e w' => e = .returned (.bool true) ∧ wr.grownBy w' none) := by
        obtain ⟨_, _, a1, a2, _⟩ := HT.out
        obtain ⟨go, gt, rb, _⟩ := a2
        exact lists_ok a1 rb HS.out
      clear HT HS HO HD
      rcases (show ¬ i < len ∨ (i < len ∧ ¬ i < 200) by omega) with g | ⟨g, g'⟩
      case' inl =>
        have gI : ¬ ((i : Int) < (len : Int)) := by omega
        go_wp2_with fail
      case' inr =>
        have gI : (i : Int) < (len : Int) := by omega
        have gI2 : ¬ ((i : Int) < 200) := by omega
        go_wp2_with fail
      all_goals (
        refine CL.out.mono ?_
        rintro e w3 ⟨rfl, g3⟩
        have HB3 : Hid (Below w.heap.size w w3) := HBW.out.trans (below_of g3 _ HBW.out.size (by simp))
        clear g3 CL
        go_wp2_with fail
        refine (awake_ok w3).mono ?_
        rintro e w4 ⟨rfl, g4⟩
        have HB4 : Hid (Below w.heap.size w w4) := HB3.out.trans (below_of g4 _ HB3.out.size (by simp))
        clear g4
        go_wp2
        go_ret
        exact ⟨rfl, HB4.out⟩)
/-- The whole: any number of places. -/
theorem plays_walk (w : World) (n : Int) (ao : Option Addr) (len cap : Nat) (hl : len ≤ maxLen) (hd : Dos w ao len) : Calls Try.prog 3 #[.int .i64 n, .slice ao len cap] w fun e w' => e = .returned (.bool true) ∧ Below w.heap.size w w' := by
  by_cases h : 0 ≤ n ∧ n ≤ 4096
  · obtain ⟨x, rfl⟩ : ∃ x : Nat, n = x := ⟨n.toNat, by omega⟩
    exact plays_ok w x (by omega) ao len cap hl hd
  · exact plays_no w n (by omega) _
end Go.Proofs.Ytdlkmeopiilmdaa
