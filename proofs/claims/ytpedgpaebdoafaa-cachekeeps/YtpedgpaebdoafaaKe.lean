/- The law CacheKeeps walked. -/
import Derived.Test.YtpedgpaebdoafaaKt
import Derived.Test.YtpedgpaebdoafaaAp
namespace Go.Proofs.Ytpedgpaebdoafaa
open Go.ChangeShapes Go.WideShapes Go.ChangeAt Go.RowKit
set_option linter.unusedVariables false

/-- The cache, told from the touches lc; the sets and tags of the touches la, lt noted beside it. -/
def Kps (w0 : World) (vs : List Value) (w : World) (p n ways : Nat) (va : Value) (la : List (Nat × Int)) (vt : Value) (lt lc : List (Nat × Int)) : Prop :=
  ∃ F f, Ca w F p n ways f ∧ (∀ i, i < n → f i = hold ways i lc) ∧ (∀ k, F k → w0.heap.size < k) ∧ Std w0 vs w ∧ w.ownsRow (w0.heap.size + 1) 3 1 va la.length (hi la) ∧ w.ownsRow (w0.heap.size + 1) 32 1 vt lt.length (ht lt) ∧
    (∀ g, va.ownBlock = some g → ¬ F g ∧ vt.ownBlock ≠ some g) ∧ (∀ g, vt.ownBlock = some g → ¬ F g)
theorem Kps.std {w0 w : World} {vs : List Value} {p n ways : Nat} {va vt : Value} {la lt lc : List (Nat × Int)} (h : Kps w0 vs w p n ways va la vt lt lc) : Std w0 vs w := by
  obtain ⟨F, f, _, _, _, s, _⟩ := h
  exact s
theorem Kps.rows {w0 w : World} {vs : List Value} {p n ways : Nat} {va vt : Value} {la lt lc : List (Nat × Int)} (h : Kps w0 vs w p n ways va la vt lt lc) : w.ownsRow (w0.heap.size + 1) 3 1 va la.length (hi la) ∧ w.ownsRow (w0.heap.size + 1) 32 1 vt lt.length (ht lt) ∧ w0.heap.size + 1 ≤ w.heap.size := by
  obtain ⟨F, f, _, _, _, s, a, b, _⟩ := h
  exact ⟨a, b, s.1.1⟩
theorem Kps.start {w0 w : World} {vs : List Value} {p n ways : Nat} (h : One w0 vs w p n ways (fun _ => [])) : Kps w0 vs w p n ways (.slice none 0 0) [] (.slice none 0 0) [] [] := by
  obtain ⟨F, c, l, s⟩ := h
  exact ⟨F, _, c, fun i _ => by simp [hold, sub, dd], l, s, World.ownsRow_nil _ _ _ _, World.ownsRow_nil _ _ _ _, fun g hg => (by cases hg), fun g hg => (by cases hg)⟩
theorem Kps.below {w0 w w' : World} {vs : List Value} {p n ways : Nat} {va vt : Value} {la lt lc : List (Nat × Int)} (h : Kps w0 vs w p n ways va la vt lt lc) (k : Below w.heap.size w w') : Kps w0 vs w' p n ways va la vt lt lc := by
  obtain ⟨F, f, c, e, l, s, a, b, x, y⟩ := h
  exact ⟨F, f, c.below k, e, l, s.below k, owns_below a k, owns_below b k, x, y⟩
theorem Kps.touch {w0 w : World} {vs : List Value} {p n ways : Nat} {va vt : Value} {la lt lc : List (Nat × Int)} (h : Kps w0 vs w p n ways va la vt lt lc) (i : Nat) (hi : i < n) (t : Int) (h0 : 0 ≤ t) (h1 : t < 18446744073709551616) :
    Calls Try.prog 14 #[.pointer (some ⟨p, 0, none⟩), .int .i64 i, .int .u64 t] w fun e w' => e = .returned (.tuple #[.bool (decide (t ∈ hold ways i lc)), .int .i64 0]) ∧ Kps w0 vs w' p n ways va la vt lt (lc ++ [(i, t)]) := by
  obtain ⟨F, f, c, e, l, s, a, b, x, y⟩ := h
  refine (Touch_ok c i hi t h0 h1).mono ?_
  rintro e' w' ⟨he, F', c', k⟩
  have sz := s.1.1
  refine ⟨by rw [he, e i hi], F', _, c', hold_touch ways i t lc f n e hi, fun j hj => ?_, s.kp k l, owns_eq a (fun g hg => k.block g (owns_lt a g hg).2 (x g hg).1), owns_eq b (fun g hg => k.block g (owns_lt b g hg).2 (y g hg)), fun g hg => ⟨fun q => ?_, (x g hg).2⟩, fun g hg q => ?_⟩
  · rcases k.new j hj with q | q
    · exact l j q
    · omega
  · rcases k.new g q with z | z
    · exact (x g hg).1 z
    · have := (owns_lt a g hg).2; omega
  · rcases k.new g q with z | z
    · exact y g hg z
    · have := (owns_lt b g hg).2; omega
theorem Std.grown {w0 w w' : World} {vs : List Value} {row : Option Nat} (h : Std w0 vs w) (k : w.grownBy w' row) (hr : ∀ i, row = some i → w0.heap.size < i) : Std w0 vs w' :=
  ⟨h.1.of_eq k.size (k.block _ h.1.1 (fun q => by have := hr _ q.symm; omega)), h.2.grown k h.2.size (fun i q => Nat.le_of_lt (hr i q))⟩
theorem Kps.addA {w0 w w2 : World} {vs : List Value} {p n ways : Nat} {va vt : Value} {la lt lc : List (Nat × Int)} (h : Kps w0 vs w p n ways va la vt lt lc) {o : Obj} {g m cap : Nat} (i : Nat) (t : Int) (gr : (w.alloc o).grownBy w2 va.ownBlock) (hat : va.ownBlock = some g ∨ g = w.heap.size + 1)
    (hm : la.length + 1 = m) (or : w2.ownsRow (w0.heap.size + 1) 3 1 (.slice (some ⟨g, 0, none⟩) m cap) m (hi la ++ [.int .i64 i])) : Kps w0 vs w2 p n ways (.slice (some ⟨g, 0, none⟩) m cap) (la ++ [(i, t)]) vt lt lc := by
  obtain ⟨F, f, c, e, l, s, a, b, x, y⟩ := h
  have G : w.grownBy w2 va.ownBlock := (World.grownBy_alloc _ _ _).trans gr
  refine ⟨F, f, c.of_eq G.size (fun k hk => G.block k (c.1 k hk) (fun q => (x k q.symm).1 hk)), e, l, s.grown G (fun k hk => (owns_lt a k hk).1), ?_, owns_eq b (fun k hk => G.block k (owns_lt b k hk).2 (fun q => (x k q.symm).2 hk)), fun k hk => ?_, y⟩
  · have e1 : (la ++ [(i, t)]).length = m := by simp [hm]
    rw [e1]
    simpa [Proofs.Ytpedgpaebdoafaa.hi] using or
  · cases hk
    rcases hat with q | q
    · exact x g q
    · refine ⟨fun z => ?_, fun z => ?_⟩
      · have := c.1 g z; omega
      · have := (owns_lt b g z).2; omega
theorem Kps.addT {w0 w w2 : World} {vs : List Value} {p n ways : Nat} {va vt : Value} {la lt lc : List (Nat × Int)} (h : Kps w0 vs w p n ways va la vt lt lc) {o : Obj} {g m cap : Nat} (i : Nat) (t : Int) (gr : (w.alloc o).grownBy w2 vt.ownBlock) (hat : vt.ownBlock = some g ∨ g = w.heap.size + 1)
    (hm : lt.length + 1 = m) (or : w2.ownsRow (w0.heap.size + 1) 32 1 (.slice (some ⟨g, 0, none⟩) m cap) m (ht lt ++ [.int .u64 t])) : Kps w0 vs w2 p n ways va la (.slice (some ⟨g, 0, none⟩) m cap) (lt ++ [(i, t)]) lc := by
  obtain ⟨F, f, c, e, l, s, a, b, x, y⟩ := h
  have G : w.grownBy w2 vt.ownBlock := (World.grownBy_alloc _ _ _).trans gr
  refine ⟨F, f, c.of_eq G.size (fun k hk => G.block k (c.1 k hk) (fun q => y k q.symm hk)), e, l, s.grown G (fun k hk => (owns_lt b k hk).1), owns_eq a (fun k hk => G.block k (owns_lt a k hk).2 (fun q => (x k hk).2 q.symm)), ?_, fun k hk => ⟨(x k hk).1, fun z => ?_⟩, fun k hk => ?_⟩
  · have e1 : (lt ++ [(i, t)]).length = m := by simp [hm]
    rw [e1]
    simpa [Proofs.Ytpedgpaebdoafaa.ht] using or
  · cases z
    rcases hat with q | q
    · exact (x g hk).2 q
    · have := (owns_lt a g hk).2; omega
  · cases hk
    rcases hat with q | q
    · exact y g q
    · intro z
      have := c.1 g z; omega
theorem Try.infoI : (Try.prog.info? 3).map (fun i => (i.zero, i.size, i.bytes)) = some (some (.int .i64 0), 1, 8) := by kernel_rfl
set_option maxRecDepth 100000 in
set_option maxHeartbeats 4000000 in
theorem keeps_walk (w : World) (K Ways Set : Int) (aS : Option Addr) (lS cS : Nat) (aT : Option Addr) (lT cT : Nat) (aO : Option Addr) (lO cO : Nat) (fS fT fO : Nat → Int) (T : TIn w K Ways Set aS lS cS aT lT cT aO lO cO fS fT fO) :
    Calls Try.prog 4 #[.agg (tV K Ways Set aS lS cS aT lT cT aO lO cO).toArray] w fun e w' => e = .returned (.bool true) ∧ Below w.heap.size w w' := by
  obtain ⟨i0, hi0, hz0, hz1, hz2⟩ := info_parts Try.infoU
  obtain ⟨j0, hj0, hy0, hy1, hy2⟩ := info_parts Try.infoI
  obtain ⟨r, hr⟩ : ∃ r : Nat, K % 5 = r := ⟨(K % 5).toNat, by omega⟩
  obtain ⟨s, hs⟩ : ∃ s : Nat, Ways % 8 = s := ⟨(Ways % 8).toNat, by omega⟩
  have hr5 : r < 5 := by omega
  have hs8 : s < 8 := by omega
  have pn : 1 ≤ 2 ^ r ∧ 2 ^ r ≤ 16 := by
    have : r = 0 ∨ r = 1 ∨ r = 2 ∨ r = 3 ∨ r = 4 := by omega
    rcases this with rfl | rfl | rfl | rfl | rfl <;> decide
  obtain ⟨pn1, pn2⟩ := pn
  obtain ⟨n, hn⟩ : ∃ n, 2 ^ r = n := ⟨_, rfl⟩
  obtain ⟨m, hm⟩ : ∃ m, 1 + s = m := ⟨_, rfl⟩
  rw [hn] at pn1 pn2
  have HN : Hid (2 ^ r = n) := hn
  have HR1 : Hid (K % 5 = r) := hr
  have HR : Hid (Ways % 8 = s) := hs
  clear hn hs hr
  have HT : Hid (TIn w K Ways Set aS lS cS aT lT cT aO lO cO fS fT fO) := T
  obtain ⟨k0, k1⟩ := T.k
  obtain ⟨wy0, wy1⟩ := T.ways
  have l1 := T.lt
  have l2 := T.ls
  unfold maxLen at l1 l2
  clear T
  obtain ⟨vs, hvs⟩ : ∃ vs, vs = tV K Ways Set aS lS cS aT lT cT aO lO cO := ⟨_, rfl⟩
  have v0 : Hid (vs[0]? = some (.int .i64 K)) := by rw [hvs]; rfl
  have v1 : Hid (vs[1]? = some (.int .i64 Ways)) := by rw [hvs]; rfl
  have v3 : Hid (vs[3]? = some (.slice aS lS cS)) := by rw [hvs]; rfl
  have v4 : Hid (vs[4]? = some (.slice aT lT cT)) := by rw [hvs]; rfl
  have S1 : Hid (Std w vs (w.alloc (.cells (tV K Ways Set aS lS cS aT lT cT aO lO cO).toArray 39))) := by rw [hvs]; exact std_new w _ 39
  clear hvs
  unfold tV at *
  go_enter Try.func4, Try.ntmps4
  go_wp2_with fail
  generalize (w.alloc (.cells [Value.int .i64 K, .int .i64 Ways, .int .i64 Set, .slice aS lS cS, .slice aT lT cT, .slice aO lO cO].toArray 39)) = w1 at *
  have d3 := S1.out.1.2 3 _ v3.out
  have d4 := S1.out.1.2 4 _ v4.out
  go_quiet (fail)
  clear d4 d3
  have S2 : Hid (Std w vs (w1.drewN nq)) := S1.out.below (below_drewN _ _ _)
  generalize w1.drewN nq = w2 at *
  clear S1
  have d0 := S2.out.1.2 0 _ v0.out
  have d1 := S2.out.1.2 1 _ v1.out
  go_wp2_with fail
  refine (made_one S2.out K Ways r s n m HN.out hm hr5 hs8 k0 k1 wy0 wy1 HR1.out HR.out).mono ?_
  rintro e w3 ⟨p, rfl, hO⟩
  have O3 : Hid (One w vs w3 p n m (fun _ => [])) := hO
  clear hO S2 d0 d1
  go_wp2_with fail
  refine (awake_any _).mono ?_
  rintro e w4 ⟨rfl, hb4⟩
  have K4 : Hid (Kps w vs w4 p n m (.slice none 0 0) [] (.slice none 0 0) [] []) := Kps.start (O3.out.below hb4)
  clear O3 hb4
  go_wp2_with fail
  go_loopw [8, 9, 10] (fun va vt i wr => ∃ k : Nat, k ≤ lS ∧ k ≤ lT ∧ k ≤ 200 ∧ i = .int .i64 k ∧ ∃ l, l.length = k ∧ (∀ x ∈ l, x.1 ≤ 4096) ∧ Kps w vs wr p n m va l vt l l) (fun _ _ i _ => lT - (intOf i).toNat)
  case atStart => exact ⟨0, by omega, by omega, by omega, rfl, [], rfl, by simp, K4.out⟩
  case round =>
    clear K4
    obtain ⟨k, hk1, hk2, hk3, rfl, l, hl, hls, hK⟩ := hrel
    have HL : Hid (l.length = k) := hl
    have HLS : Hid (∀ x ∈ l, x.1 ≤ 4096) := hls
    have HK : Hid (Kps w vs wr p n m u8 l u9 l l) := hK
    have HB : Hid (Below w.heap.size w wr) := hK.std.2
    clear hl hls hK
    by_cases a1 : k < lS
    · by_cases a2 : k < lT
      · by_cases a3 : k < 200
        · obtain ⟨bS, oS, eS, hc⟩ := HT.out.S.at' HB.out a1
          obtain ⟨bT, oT, eT, hd⟩ := HT.out.T.at' HB.out a2
          obtain ⟨x0, x1⟩ := HT.out.okt k a2
          obtain ⟨y0, y1⟩ := HT.out.oks k a1
          subst eT eS
          generalize fT k = x at hd x0 x1
          generalize fS k = y at hc y0 y1
          obtain ⟨z, hz⟩ : ∃ z : Nat, y % n = z := ⟨(y % n).toNat, by have := Int.emod_nonneg y (by omega : (n : Int) ≠ 0); omega⟩
          have hzn : z < n := by have := Int.emod_lt_of_pos y (by omega : 0 < (n : Int)); omega
          have C2 : Hid (Calls Try.prog 13 #[.int .i64 y, .int .i64 n] wr fun e w' => e = .returned (.int .i64 z) ∧ w' = wr) := by
            have := Within_any y n (by omega) (by omega) y0 y1 wr
            rw [hz] at this
            exact this
          clear hz
          go_wp2_with fail
          refine C2.out.mono ?_
          rintro e w' ⟨rfl, rfl⟩
          clear C2
          go_wp2_with fail
          refine (HK.out.touch z hzn (x % 24) (by omega) (by omega)).mono ?_
          rintro e w5 ⟨rfl, hK⟩
          have K5 : Hid (Kps w vs w5 p n m u8 l u9 l (l ++ [(z, x % 24)])) := hK
          clear hK HK hc hd HB
          obtain ⟨bb, hbb⟩ : ∃ bb, decide (x % 24 ∈ hold m z l) = bb := ⟨_, rfl⟩
          have HBB : Hid (decide (x % 24 ∈ hold m z l) = bb) := hbb
          rw [hbb]
          clear hbb
          have CK : Hid (Calls Try.prog 15 #[u8, u9, .int .i64 z, .int .u64 (x % 24), .int .i64 m] w5 fun e w' => e = .returned (.bool bb) ∧ Below w5.heap.size w5 w') := by
            have := kept_any K5.out.rows.1 K5.out.rows.2.1 (by rw [HL.out]; omega) z (x % 24) m (by omega) (by omega) HLS.out (by omega)
            rw [HBB.out] at this
            exact this
          go_wp2_with fail
          refine CK.out.mono ?_
          rintro e w6 ⟨rfl, hb6⟩
          have K6 : Hid (Kps w vs w6 p n m u8 l u9 l (l ++ [(z, x % 24)])) := K5.out.below hb6
          clear CK K5 hb6 HBB
          obtain ⟨o6a, o6t, s6⟩ := K6.out.rows
          rw [HL.out] at o6a o6t
          have OA : Hid (w6.ownsRow (w.heap.size + 1) 3 1 u8 k (hi l)) := o6a
          clear o6a o6t
          generalize x % 24 = t at *
          go_wp2_with (first
            | (at_builtin; refine wpList_append_lies _ rfl (.tmp 80) (.tmp 82) 36 rfl (w.heap.size + 1) 3 j0 _ 1 8 Try.underlying36 hj0 hy0 hy1 hy2 rfl (by decide) u8 k (hi l) rfl (World.ownsRow.alloc OA.out _) ⟨w6.heap.size, 0, none⟩ 1 1 [.int .i64 z] rfl rfl (cell_one_new _ _ _) (by intro u hu; simp at hu; subst hu; rfl) (by omega) (by unfold maxLen; omega) (by omega) (by simp; omega) (w6.heap.size + 1) (by simp) ?_; intro g7 c7 w7 o7 gr7 at7 lt7; have K7 : Hid (Kps w vs w7 p n m (.slice (some ⟨g7, 0, none⟩) (k + 1) c7) (l ++ [(z, t)]) u9 l (l ++ [(z, t)])) := (K6.out.addA z t gr7 at7 (by rw [HL.out]) o7); have o7t := K7.out.rows.2.1; rw [HL.out] at o7t; have OT : Hid (w7.ownsRow (w.heap.size + 1) 32 1 u9 k (ht l)) := o7t; have s7 := K7.out.rows.2.2; clear o7t o7 gr7 at7 lt7)
            | (at_builtin; refine wpList_append_lies _ rfl (.tmp 84) (.tmp 86) 37 rfl (w.heap.size + 1) 32 i0 _ 1 8 Try.underlying37 hi0 hz0 hz1 hz2 rfl (by decide) u9 k (ht l) rfl (World.ownsRow.alloc OT.out _) ⟨w7.heap.size, 0, none⟩ 1 1 [.int .u64 t] rfl rfl (cell_one_new _ _ _) (by intro u hu; simp at hu; subst hu; rfl) (by omega) (by unfold maxLen; omega) (by omega) (by simp; omega) (w7.heap.size + 1) (by simp) ?_; intro g8 c8 w8 o8 gr8 at8 lt8; have K8 : Hid (Kps w vs w8 p n m (.slice (some ⟨g7, 0, none⟩) (k + 1) c7) (l ++ [(z, t)]) (.slice (some ⟨g8, 0, none⟩) (k + 1) c8) (l ++ [(z, t)]) (l ++ [(z, t)])) := (K7.out.addT z t gr8 at8 (by rw [HL.out]) o8); clear o8 gr8 at8 lt8))
          go_roundw
          case rel =>
            refine ⟨k + 1, by omega, by omega, by omega, by go_num, l ++ [(z, t)], by simp [HL.out], fun x hx => ?_, K8.out⟩
            rcases List.mem_append.1 hx with q | q
            · exact HLS.out x q
            · simp at q
              subst q
              show z ≤ 4096
              omega
          case measure => simp [intOf]; omega
        · go_wp2
          go_ret
          exact ⟨rfl, HB.out⟩
      · go_wp2
        go_ret
        exact ⟨rfl, HB.out⟩
    · go_wp2
      go_ret
      exact ⟨rfl, HB.out⟩
end Go.Proofs.Ytpedgpaebdoafaa
