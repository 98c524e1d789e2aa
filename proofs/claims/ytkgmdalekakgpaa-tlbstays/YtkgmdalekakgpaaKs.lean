/- The law TlbStays walked. -/
import Derived.Test.YtkgmdalekakgpaaKt
import Derived.Test.YtkgmdalekakgpaaWk
import Derived.Test.YtkgmdalekakgpaaOp
namespace Go.Proofs.Ytkgmdalekakgpaa
open Go.ChangeShapes Go.WideShapes Go.ChangeAt Go.RowKit
set_option linter.unusedVariables false

/-- The TLB, the list beside it, and what stays. -/
structure Sw (w wr : World) (p n : Nat) (l : List Tr) (v : Value) (K : List Kx) (Q : Nat → Prop) : Prop where
  on : On Q wr wr p n l
  lo : ∀ k, k < w.heap.size → Q k
  kp : Kpt (fun k => k < w.heap.size) w wr
  ko : KOwn 0 wr v K
  kq : ∀ g, v.ownBlock = some g → Q g
theorem On.rebase {Q : Nat → Prop} {w1 w2 : World} {p n : Nat} {l : List Tr} (h : On Q w1 w2 p n l) : On Q w2 w2 p n l := by
  obtain ⟨F, c, x, t⟩ := h
  exact ⟨F, c, x, rfl, rfl, rfl, Nat.le_refl _, fun _ _ => rfl, fun k hk => Nat.lt_of_lt_of_le (t.lt k hk) t.size⟩
theorem Sw.after {w wr w' : World} {p n : Nat} {l l' : List Tr} {v : Value} {K : List Kx} {Q : Nat → Prop} (h : Sw w wr p n l v K Q) (o : On Q wr w' p n l') : Sw w w' p n l' v K Q :=
  ⟨o.rebase, h.lo, h.kp.trans o.kpt h.lo, h.ko.of_eq (fun g hg => o.kpt.block g (h.kq g hg)), h.kq⟩
theorem Sw.more {w wr w' : World} {p n : Nat} {l : List Tr} {v : Value} {K : List Kx} {Q : Nat → Prop} (h : Sw w wr p n l v K Q) (b : Below wr.heap.size wr w') : Sw w w' p n l v K (fun i => Q i ∨ (wr.heap.size ≤ i ∧ i < w'.heap.size)) :=
  ⟨h.on.more b, fun k hk => Or.inl (h.lo k hk), h.kp.below b, h.ko.below b, fun g hg => Or.inl (h.kq g hg)⟩
theorem Sw.put {w wr w' : World} {p n : Nat} {l : List Tr} {v v' : Value} {K K' : List Kx} {Q : Nat → Prop} (h : Sw w wr p n l v K Q) (b : Below wr.heap.size wr w') (o : KOwn wr.heap.size w' v' K') : Sw w w' p n l v' K' (fun i => Q i ∨ (wr.heap.size ≤ i ∧ i < w'.heap.size)) :=
  ⟨h.on.more b, fun k hk => Or.inl (h.lo k hk), h.kp.below b, o.weak (Nat.zero_le _), fun g hg => Or.inr (o.lt g hg)⟩
theorem Sw.six {w wr w' : World} {p n : Nat} {l l' : List Tr} {v : Value} {K : List Kx} {Q : Nat → Prop} (o : On Q wr w' p n l') {b : Nat} (hb : Q b) {x : Tr} (h : Six wr b 0 x) : Six w' b 0 x := h.of_eq (o.kpt.block b hb)
/-- What the statement holds. -/
structure Sg (n k : Nat) (l : List Tr) (K : List Kx) : Prop where
  si : Si n l K.reverse
  ok : ∀ y ∈ K, okA y.x.a = true ∧ okP y.x.p = true
  len : K.length ≤ k
theorem kt_rev (x : Tr) (K : List Kx) (g : Bool) : (kt x.a x.p K ⟨x, g⟩).reverse = ⟨x, g⟩ :: K.reverse.filter (fun z => !hk x.a x.p z.x) := by
  simp [kt, List.filter_reverse]
theorem kd_rev (a p : Int) (K : List Kx) : (kd a p K).reverse = K.reverse.map (fun z => if hk a p z.x then { z with gone := true } else z) := by
  simp [kd]
theorem kt_ok {x : Tr} {K : List Kx} {g : Bool} (ha : okA x.a = true) (hp : okP x.p = true) (h : ∀ y ∈ K, okA y.x.a = true ∧ okP y.x.p = true) : ∀ y ∈ kt x.a x.p K ⟨x, g⟩, okA y.x.a = true ∧ okP y.x.p = true := by
  intro y hy
  simp only [kt, List.mem_append, List.mem_singleton] at hy
  rcases hy with hy | rfl
  · exact h y (List.mem_filter.1 hy).1
  · exact ⟨ha, hp⟩
theorem kd_ok {a p : Int} {K : List Kx} (h : ∀ y ∈ K, okA y.x.a = true ∧ okP y.x.p = true) : ∀ y ∈ kd a p K, okA y.x.a = true ∧ okP y.x.p = true := by
  intro y hy
  simp only [kd, List.mem_map] at hy
  obtain ⟨z, hz, rfl⟩ := hy
  split
  · exact h z hz
  · exact h z hz
theorem kt_len (a p : Int) (K : List Kx) (y : Kx) : (kt a p K y).length ≤ K.length + 1 := by
  simp [kt]
  exact List.length_filter_le _ _
theorem Sg.fill {n k : Nat} {l : List Tr} {K : List Kx} (h : Sg n k l K) (x : Tr) (hn : 1 ≤ n) (ha : okA x.a = true) (hp : okP x.p = true) : Sg n (k + 1) (fil n x l) (kt x.a x.p K ⟨x, false⟩) := by
  refine ⟨?_, kt_ok ha hp h.ok, Nat.le_trans (kt_len _ _ _ _) (by have := h.len; omega)⟩
  rw [kt_rev]
  exact h.si.fill x hn
theorem Sg.drop {n k : Nat} {l : List Tr} {K : List Kx} (h : Sg n k l K) (a p : Int) : Sg n (k + 1) (rm a p l) (kd a p K) := by
  refine ⟨?_, kd_ok h.ok, by rw [kd_len]; have := h.len; omega⟩
  rw [kd_rev]
  exact h.si.drop a p
theorem Sg.next {n k : Nat} {l : List Tr} {K : List Kx} (h : Sg n k l K) : Sg n (k + 1) l K := ⟨h.si, h.ok, by have := h.len; omega⟩
set_option maxRecDepth 100000 in
set_option maxHeartbeats 8000000 in
theorem stays_walk (w : World) (n0 : Int) (hn0 : -9223372036854775808 ≤ n0) (hn1 : n0 < 9223372036854775808) (al : Option Addr) (ll cl : Nat) (hl : ll ≤ maxLen) (D : Dos w al ll) :
    Calls Try.prog 4 #[.int .i64 n0, .slice al ll cl] w fun e w' => e = .returned (.bool true) ∧ Below w.heap.size w w' := by
  unfold maxLen at hl
  have HD : Hid (Dos w al ll) := D
  have CN : Hid (∀ W, Calls Try.prog 15 #[.int .i64 n0, .int .i64 8] W fun e w' => e = .returned (.int .i64 (n0 % 8)) ∧ w' = W) := fun W => kind_any n0 8 (by omega) (by omega) hn0 hn1 W
  obtain ⟨m, hm⟩ : ∃ m : Nat, n0 % 8 = m := ⟨(n0 % 8).toNat, by omega⟩
  have hm8 : m < 8 := by omega
  rw [hm] at CN
  clear D hm hn0 hn1
  go_enter Try.func4, Try.ntmps4
  go_wp2_with fail
  refine (works_any w).mono ?_
  rintro e w1 ⟨rfl, hb⟩
  have B1 : Hid (Below w.heap.size w w1) := hb
  clear hb
  go_wp2_with fail
  refine (CN.out _).mono ?_
  rintro e w' ⟨rfl, rfl⟩
  have CW : Hid (Calls Try.prog 8 #[.int .i64 (1 + (m : Int))] w' fun e w'' => ∃ p F, e = .returned (.tuple #[.pointer (some ⟨p, 0, none⟩), .int .i64 0]) ∧ Ca w'' F p (1 + m) [] ∧ Kp (fun _ => False) F w' w'') := by
    have := New_ok (1 + m) (by omega) (by omega) w'
    rw [show ((1 + m : Nat) : Int) = 1 + (m : Int) by omega] at this
    exact this
  go_wp2_with fail
  refine CW.out.mono ?_
  rintro e w2 ⟨p, F, rfl, hC, hK⟩
  have S0 : Hid (Sw w w2 p (1 + m) [] (.slice none 0 0) [] (fun k => k < w.heap.size)) := by
    have h := On.start hC hK
    have kp : Kpt (fun k => k < w.heap.size) w w' := ⟨B1.out.os, B1.out.tape, B1.out.output, B1.out.size, B1.out.block, fun i hi => hi⟩
    have o : On (fun k => k < w.heap.size) w w2 p (1 + m) [] := On.less kp h (fun i hi => Nat.lt_of_lt_of_le hi B1.out.size)
    exact ⟨o.rebase, fun k hk => hk, o.kpt, KOwn.nil _ _, fun g hg => by cases hg⟩
  clear hC hK B1 CW CN
  go_wp2_with fail
  go_loopw [7, 8] (fun v i wr => ∃ k : Nat, k ≤ ll ∧ k ≤ 60 ∧ i = .int .i64 k ∧ ∃ l K Q, Sw w wr p (1 + m) l v K Q ∧ Sg (1 + m) k l K) (fun _ i _ => ll - (intOf i).toNat)
  case atStart => exact ⟨0, by omega, by omega, rfl, _, _, _, S0.out, ⟨⟨by simp, by simp [lv], List.Pairwise.nil⟩, by simp, by simp⟩⟩
  case round =>
    clear S0
    obtain ⟨k, hk, hk2, rfl, l, K, Q, hS, hG⟩ := hrel
    have S1 : Hid (Sw w wr p (1 + m) l u7 K Q) := hS
    have G1 : Hid (Sg (1 + m) k l K) := hG
    clear hS hG
    by_cases a1 : k < ll ∧ k < 60
    · obtain ⟨a1, a2⟩ := a1
      obtain ⟨b, off, Kd, x, e1, hb, hd⟩ := HD.out k a1
      subst e1
      have HDo : Hid (∀ W, Kpt (fun k => k < w.heap.size) w W → W.cell? ⟨b, off + k * 7, none⟩ = some (.int .i64 Kd)) := fun W hW => (hd.of_eq (hW.block b hb)).k
      obtain ⟨d0, d1, d2, d3, d4, d5⟩ := Six.of (hd.of_eq (S1.out.kp.block b hb)).six
      obtain ⟨xa0, xa1⟩ := hd.wf.a
      obtain ⟨xp0, xp1⟩ := hd.wf.p
      obtain ⟨xf0, xf1⟩ := hd.wf.f
      have C1 : Hid (∀ W, Calls Try.prog 15 #[.int .i64 x.a, .int .i64 3] W fun e w' => e = .returned (.int .i64 (x.a % 3)) ∧ w' = W) := fun W => kind_any x.a 3 (by omega) (by omega) xa0 xa1 W
      have C2 : Hid (∀ W, Calls Try.prog 15 #[.int .i64 x.p, .int .i64 6] W fun e w' => e = .returned (.int .i64 (x.p % 6)) ∧ w' = W) := fun W => kind_any x.p 6 (by omega) (by omega) xp0 xp1 W
      have C3 : Hid (∀ W, Calls Try.prog 15 #[.int .i64 x.f, .int .i64 4096] W fun e w' => e = .returned (.int .i64 (x.f % 4096)) ∧ w' = W) := fun W => kind_any x.f 4096 (by omega) (by omega) xf0 xf1 W
      have C4 : Hid (∀ W, Calls Try.prog 15 #[.int .i64 Kd, .int .i64 3] W fun e w' => e = .returned (.int .i64 (Kd % 3)) ∧ w' = W) := fun W => kind_any Kd 3 (by omega) (by omega) hd.k0 hd.k1 W
      have HXX : Hid (okA (x.a % 3) = true ∧ okP (x.p % 6) = true ∧ okF (x.f % 4096) = true) := by
        refine ⟨?_, ?_, ?_⟩
        · simp [okA]; omega
        · simp [okP]; omega
        · simp [okF]; omega
      obtain ⟨xr, hxr⟩ : ∃ xr, x.r = xr := ⟨_, rfl⟩
      obtain ⟨xw, hxw⟩ : ∃ xw, x.w = xw := ⟨_, rfl⟩
      obtain ⟨xd, hxd⟩ : ∃ xd, x.d = xd := ⟨_, rfl⟩
      rw [hxr] at d3
      rw [hxw] at d4
      rw [hxd] at d5
      have hr3 : Kd % 3 = 0 ∨ Kd % 3 = 1 ∨ Kd % 3 = 2 := by omega
      clear hd xa0 xa1 xp0 xp1 xf0 xf1 hxr hxw hxd
      go_wp2_with fail
      refine (C1.out _).mono ?_
      rintro e w' ⟨rfl, rfl⟩
      go_wp2_with fail
      refine (C2.out _).mono ?_
      rintro e w' ⟨rfl, rfl⟩
      go_wp2_with fail
      refine (C3.out _).mono ?_
      rintro e w' ⟨rfl, rfl⟩
      generalize x.a % 3 = A at *
      generalize x.p % 6 = G at *
      generalize x.f % 4096 = Fr at *
      clear C1 C2 C3 d0 d1 d2 d3 d4 d5
      have X2 : Hid (Six (wr.alloc (.cells #[.int .i64 A, .int .i64 G, .int .i64 Fr, .bool xr, .bool xw, .bool xd] 32)) wr.heap.size 0 ⟨A, G, Fr, xr, xw, xd⟩) := six_new wr ⟨A, G, Fr, xr, xw, xd⟩ 32
      have S2 : Hid (Sw w (wr.alloc (.cells #[.int .i64 A, .int .i64 G, .int .i64 Fr, .bool xr, .bool xw, .bool xd] 32)) p (1 + m) l u7 K (fun i => Q i ∨ (wr.heap.size ≤ i ∧ i < (wr.alloc (.cells #[.int .i64 A, .int .i64 G, .int .i64 Fr, .bool xr, .bool xw, .bool xd] 32)).heap.size))) := S1.out.more (below_new _ _)
      have hq2 : Hid ((fun i => Q i ∨ (wr.heap.size ≤ i ∧ i < (wr.alloc (.cells #[.int .i64 A, .int .i64 G, .int .i64 Fr, .bool xr, .bool xw, .bool xd] 32)).heap.size)) wr.heap.size) := Or.inr ⟨Nat.le_refl _, by simp⟩
      have dk := HDo.out (wr.alloc (.cells #[.int .i64 A, .int .i64 G, .int .i64 Fr, .bool xr, .bool xw, .bool xd] 32)) S2.out.kp
      go_wp2_with fail
      refine (C4.out _).mono ?_
      rintro e w' ⟨rfl, rfl⟩
      clear dk C4 HDo
      generalize wr.alloc (.cells #[.int .i64 A, .int .i64 G, .int .i64 Fr, .bool xr, .bool xw, .bool xd] 32) = W2 at *
      generalize hb2 : wr.heap.size = b2 at *
      obtain ⟨Q2, hQ2⟩ : ∃ Q2 : Nat → Prop, Q2 = (fun i => Q i ∨ (b2 ≤ i ∧ i < W2.heap.size)) := ⟨_, rfl⟩
      rw [← hQ2] at S2
      have HQ2 : Hid (Q2 b2) := by unfold Hid; rw [hQ2]; exact hq2.out
      clear hQ2 S1 hb2 hq2
      obtain ⟨o1, o2, o3⟩ := HXX.out
      obtain ⟨x0, x1, x2, x3, x4, x5⟩ := X2.out
      obtain ⟨hlen, _, _, huq⟩ := S2.out.on.len
      have HU : Hid (Uq l) := huq
      have hKl : K.length ≤ 60 := by have := G1.out.len; omega
      clear huq
      rcases hr3 with hr | hr | hr
      · rw [hr]
        clear hr
        cases hlk : look A G l with
        | none =>
          have CF : Hid (Calls _ _ _ _ _) := S2.out.on.find_at A G z0 false 0 l (by simp [pk, o1, o2, hlk]) (by simp [fd, o1, o2, hlk])
          clear hlk o1 o2 o3
          go_wp2_with fail
          refine CF.out.mono ?_
          rintro e w3 ⟨rfl, hO⟩
          have S3 : Hid (∀ o : Obj, Sw w (w3.alloc o) p (1 + m) l u7 K (fun i => Q2 i ∨ (w3.heap.size ≤ i ∧ i < (w3.alloc o).heap.size))) := fun o => (S2.out.after hO).more (below_new _ _)
          clear hO CF x0 x1 x2 x3 x4 x5
          have CT2 : Hid (Calls _ _ _ _ _) := there_any (S3.out (.cells #[.int .i64 0, .int .i64 0, .int .i64 0, .bool false, .bool false, .bool false] 32)).on (S3.out (.cells #[.int .i64 0, .int .i64 0, .int .i64 0, .bool false, .bool false, .bool false] 32)).ko (by have := G1.out.next.len; omega) G1.out.next.si G1.out.next.ok
          rw [show ((1 + m : Nat) : Int) = 1 + (m : Int) by omega] at CT2
          go_wp2_with fail
          refine CT2.out.mono ?_
          rintro e w7 ⟨rfl, hb7⟩
          have S7 : Hid (Sw w w7 p (1 + m) _ _ _ _) := (S3.out (.cells #[.int .i64 0, .int .i64 0, .int .i64 0, .bool false, .bool false, .bool false] 32)).more hb7
          clear hb7 CT2
          go_wp2_with fail
          go_roundw
          case rel => exact ⟨k + 1, by omega, by omega, by go_num, _, _, _, S7.out, G1.out.next⟩
          case measure => simp [intOf]; omega
        | some X =>
          have CF : Hid (Calls _ _ _ _ _) := S2.out.on.find_at A G X true 0 (fil (1 + m) X l) (by simp [pk, o1, o2, hlk]) (by rw [fil_found HU.out hlen hlk]; simp [fd, o1, o2, hlk])
          have hX : X.a = A ∧ X.p = G := hk_eq (List.find?_some hlk)
          have HG2 : Hid (Sg (1 + m) (k + 1) (fil (1 + m) X l) (kt X.a X.p K ⟨X, false⟩)) := G1.out.fill X (by omega) (by rw [hX.1]; exact o1) (by rw [hX.2]; exact o2)
          clear hlk hX o1 o2 o3
          go_wp2_with fail
          refine CF.out.mono ?_
          rintro e w3 ⟨rfl, hO⟩
          have S3 : Hid (Sw w (w3.alloc (.cells #[.int .i64 X.a, .int .i64 X.p, .int .i64 X.f, .bool X.r, .bool X.w, .bool X.d] 32)) p (1 + m) (fil (1 + m) X l) u7 K (fun i => Q2 i ∨ (w3.heap.size ≤ i ∧ i < (w3.alloc (.cells #[.int .i64 X.a, .int .i64 X.p, .int .i64 X.f, .bool X.r, .bool X.w, .bool X.d] 32)).heap.size))) := (S2.out.after hO).more (below_new _ _)
          clear hO CF x0 x1 x2 x3 x4 x5
          have CT : Hid (Calls _ _ _ _ _) := turned_any S3.out.ko (by omega) ⟨X, false⟩
          go_wp2_with fail
          refine CT.out.mono ?_
          rintro e w5 ⟨v5, rfl, o5, hb5⟩
          have S5 : Hid (Sw w w5 p (1 + m) _ v5 (kt X.a X.p K ⟨X, false⟩) _) := S3.out.put hb5 o5
          clear CT o5 hb5
          have CT2 : Hid (Calls _ _ _ _ _) := there_any S5.out.on S5.out.ko (by have := HG2.out.len; omega) HG2.out.si HG2.out.ok
          rw [show ((1 + m : Nat) : Int) = 1 + (m : Int) by omega] at CT2
          go_wp2_with fail
          refine CT2.out.mono ?_
          rintro e w7 ⟨rfl, hb7⟩
          have S7 : Hid (Sw w w7 p (1 + m) _ _ _ _) := S5.out.more hb7
          clear hb7 CT2
          go_wp2_with fail
          go_roundw
          case rel => exact ⟨k + 1, by omega, by omega, by go_num, _, _, _, S7.out, HG2.out⟩
          case measure => simp [intOf]; omega
      · rw [hr]
        clear hr
        have CF : Hid (Calls _ _ _ _ _) := S2.out.on.fill_at A G Fr xr xw xd (fil (1 + m) ⟨A, G, Fr, xr, xw, xd⟩ l) 0 (by simp [filE, o1, o2, o3]) (by simp [filL, o1, o2, o3])
        have HG2 : Hid (Sg (1 + m) (k + 1) (fil (1 + m) ⟨A, G, Fr, xr, xw, xd⟩ l) (kt A G K ⟨⟨A, G, Fr, xr, xw, xd⟩, false⟩)) := G1.out.fill ⟨A, G, Fr, xr, xw, xd⟩ (by omega) o1 o2
        clear o1 o2 o3
        go_wp2_with fail
        refine CF.out.mono ?_
        rintro e w3 ⟨rfl, hO⟩
        have S3 : Hid (Sw w w3 p (1 + m) (fil (1 + m) ⟨A, G, Fr, xr, xw, xd⟩ l) u7 K Q2) := S2.out.after hO
        clear x0 x1 x2 x3 x4 x5
        obtain ⟨x0, x1, x2, x3, x4, x5⟩ := X2.out.of_eq (hO.kpt.block b2 HQ2.out)
        clear hO CF
        have CT : Hid (Calls _ _ _ _ _) := turned_any S3.out.ko (by omega) ⟨⟨A, G, Fr, xr, xw, xd⟩, false⟩
        go_wp2_with fail
        refine CT.out.mono ?_
        rintro e w5 ⟨v5, rfl, o5, hb5⟩
        have S5 : Hid (Sw w w5 p (1 + m) _ v5 (kt A G K ⟨⟨A, G, Fr, xr, xw, xd⟩, false⟩) _) := S3.out.put hb5 o5
        clear CT o5 hb5 x0 x1 x2 x3 x4 x5
        have CT2 : Hid (Calls _ _ _ _ _) := there_any S5.out.on S5.out.ko (by have := HG2.out.len; omega) HG2.out.si HG2.out.ok
        rw [show ((1 + m : Nat) : Int) = 1 + (m : Int) by omega] at CT2
        go_wp2_with fail
        refine CT2.out.mono ?_
        rintro e w7 ⟨rfl, hb7⟩
        have S7 : Hid (Sw w w7 p (1 + m) _ _ _ _) := S5.out.more hb7
        clear hb7 CT2
        go_wp2_with fail
        go_roundw
        case rel => exact ⟨k + 1, by omega, by omega, by go_num, _, _, _, S7.out, HG2.out⟩
        case measure => simp [intOf]; omega
      · rw [hr]
        clear hr
        have CF : Hid (Calls _ _ _ _ _) := S2.out.on.drop_at A G (look A G l).isSome 0 (rm A G l) (by simp [isT, o1, o2]) (by simp [rmL, o1, o2])
        have HG2 : Hid (Sg (1 + m) (k + 1) (rm A G l) (kd A G K)) := G1.out.drop A G
        generalize (look A G l).isSome = bb at *
        clear o1 o2 o3
        go_wp2_with fail
        refine CF.out.mono ?_
        rintro e w3 ⟨rfl, hO⟩
        have S3 : Hid (Sw w w3 p (1 + m) (rm A G l) u7 K Q2) := S2.out.after hO
        clear x0 x1 x2 x3 x4 x5
        obtain ⟨x0, x1, x2, x3, x4, x5⟩ := X2.out.of_eq (hO.kpt.block b2 HQ2.out)
        clear hO CF
        have CT : Hid (Calls _ _ _ _ _) := dropped_any S3.out.ko (by omega) A G
        go_wp2_with fail
        refine CT.out.mono ?_
        rintro e w5 ⟨v5, rfl, o5, hb5⟩
        have S5 : Hid (Sw w w5 p (1 + m) _ v5 (kd A G K) _) := S3.out.put hb5 o5
        clear CT o5 hb5 x0 x1 x2 x3 x4 x5
        have CT2 : Hid (Calls _ _ _ _ _) := there_any S5.out.on S5.out.ko (by have := HG2.out.len; omega) HG2.out.si HG2.out.ok
        rw [show ((1 + m : Nat) : Int) = 1 + (m : Int) by omega] at CT2
        go_wp2_with fail
        refine CT2.out.mono ?_
        rintro e w7 ⟨rfl, hb7⟩
        have S7 : Hid (Sw w w7 p (1 + m) _ _ _ _) := S5.out.more hb7
        clear hb7 CT2
        go_wp2_with fail
        go_roundw
        case rel => exact ⟨k + 1, by omega, by omega, by go_num, _, _, _, S7.out, HG2.out⟩
        case measure => simp [intOf]; omega
    · have a1' : ¬ k < ll ∨ (k < ll ∧ ¬ k < 60) := by omega
      clear a1
      rcases a1' with a1 | ⟨a1, a2⟩
      all_goals (
        go_wp2
        go_ret
        exact ⟨rfl, S1.out.kp.toBelow⟩)
end Go.Proofs.Ytkgmdalekakgpaa
