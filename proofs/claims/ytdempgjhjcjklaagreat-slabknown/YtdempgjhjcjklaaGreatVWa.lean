/- What the statements' own configuration is, and awake; no condition. -/
import Derived.Test.YtdempgjhjcjklaaGreatVQb
import Derived.Test.YtdempgjhjcjklaaGreatVPu
namespace Go.Proofs.YtdempgjhjcjklaaGreat
open Go.ChangeShapes Go.WideShapes Go.ChangeAt Go.RowKit
set_option linter.unusedVariables false

/-- The chapter's configuration. -/
def us : Cf := ⟨64, 4, 2, 4, 2, 4, ⟨1, 4, 10, 5, 1, 20⟩, 4000, 20, 0, 2, fun i => (i : Int), 2, fun i => if i = 0 then ⟨2, fun j => (j : Int), 1, 4, 8, 1, 1, 1, 3⟩ else ⟨1, fun _ => 2, 0, 2, 6, 1, 1, 1, 3⟩⟩
theorem us_may : may us = true := by decide +kernel
def us11 : Cf := { us with pd := 11 }
theorem us11_chk : chk us11 = [(113, 2)] := by decide +kernel
/-- The blocks of the chapter's configuration. -/
structure Ublk (w : World) (n1 n2 n3 n4 : Nat) : Prop where
  t : Blk w n1 3 [.int .i64 0, .int .i64 1]
  c0 : Blk w n2 3 [.int .i64 0, .int .i64 1]
  c1 : Blk w n3 3 [.int .i64 2]
  p : Blk w n4 53 [.slice (some ⟨n2, 0, none⟩) 2 2, .int .i64 1, .int .i64 4, .int .i64 8, .int .i64 1, .int .i64 1, .int .i64 1, .int .i64 3, .slice (some ⟨n3, 0, none⟩) 1 1, .int .i64 0, .int .i64 2, .int .i64 6, .int .i64 1, .int .i64 1, .int .i64 1, .int .i64 3]
def Ud (n1 n2 n3 n4 : Nat) : Ad := ⟨some ⟨n1, 0, none⟩, 2, some ⟨n4, 0, none⟩, 2, fun i => some ⟨if i = 0 then n2 else n3, 0, none⟩, fun i => if i = 0 then 2 else 1⟩
theorem two_lt {i : Nat} (h : i < 2) : i = 0 ∨ i = 1 := by omega
theorem Ublk.cin {w : World} {n1 n2 n3 n4 : Nat} (h : Ublk w n1 n2 n3 n4) : Cin w (Ud n1 n2 n3 n4) us := by
  have h1 : Arg w (some ⟨n1, 0, none⟩) 2 (fun i => (i : Int)) := Or.inr ⟨n1, 0, rfl, h.t.lt, fun i hi => by
    rw [h.t.cell]
    rcases two_lt hi with rfl | rfl <;> rfl⟩
  have h2 : Arg w (some ⟨n2, 0, none⟩) 2 (fun i => (i : Int)) := Or.inr ⟨n2, 0, rfl, h.c0.lt, fun i hi => by
    rw [h.c0.cell]
    rcases two_lt hi with rfl | rfl <;> rfl⟩
  have h3 : Arg w (some ⟨n3, 0, none⟩) 1 (fun _ => (2 : Int)) := Or.inr ⟨n3, 0, rfl, h.c1.lt, fun i hi => by
    rw [h.c1.cell]
    obtain rfl : i = 0 := by omega
    rfl⟩
  refine ⟨h1, Or.inr ⟨n4, 0, rfl, h.p.lt, fun i hi => ?_⟩, by decide, by decide, fun i hi => ?_, (fun e => by cases e), (fun e => by cases e), (fun i hi e => by cases e), Nat.le_refl 2, by decide, by decide, by decide, by decide⟩
  · have hi' : i < 2 := hi
    rcases two_lt hi' with rfl | rfl
    · exact ⟨⟨h.p.lt, h.p.cell _, h.p.cell _, h.p.cell _, h.p.cell _, h.p.cell _, h.p.cell _, h.p.cell _, h.p.cell _⟩, h2⟩
    · exact ⟨⟨h.p.lt, h.p.cell _, h.p.cell _, h.p.cell _, h.p.cell _, h.p.cell _, h.p.cell _, h.p.cell _, h.p.cell _⟩, h3⟩
  · have hi' : i < 2 := hi
    rcases two_lt hi' with rfl | rfl <;> decide
/-- What usual gives back. -/
def Usd (w : World) (e : Ending) (w' : World) : Prop := ∃ n1 n2 n3 n4, ∃ (a : Ad) (c : Cf), e = .returned (.agg #[.int .i64 c.F, .int .i64 c.C, .int .i64 c.W, .int .i64 c.S, .int .i64 c.V, .int .i64 c.T, .int .u64 c.k.l1, .int .u64 c.k.llc, .int .u64 c.k.mi, .int .u64 c.k.fa, .int .u64 c.k.st, .int .u64 c.k.di, .int .u64 c.sl, .int .u64 c.pd, .int .u64 c.ft, .slice a.ta c.tn a.tc, .slice a.pa c.pn a.pc]) ∧ c = us ∧ a = Ud n1 n2 n3 n4 ∧ Ublk w' n1 n2 n3 n4 ∧ (w.heap.size < n1 ∧ n1 < n2 ∧ n2 < n3 ∧ n3 < n4) ∧ Below w.heap.size w w'
theorem usd_of {w w' : World} {o : Obj} (hw : w' = ((((w.alloc o).alloc (.cells #[.int .i64 0, .int .i64 1] 3)).alloc (.cells #[.int .i64 0, .int .i64 1] 3)).alloc (.cells #[.int .i64 2] 3)).alloc (.cells #[.slice (some ⟨w.heap.size + 1 + 1, 0, none⟩) 2 2, .int .i64 1, .int .i64 4, .int .i64 8, .int .i64 1, .int .i64 1, .int .i64 1, .int .i64 3, .slice (some ⟨w.heap.size + 1 + 1 + 1, 0, none⟩) 1 1, .int .i64 0, .int .i64 2, .int .i64 6, .int .i64 1, .int .i64 1, .int .i64 1, .int .i64 3] 53)) :
    Usd w (.returned (.agg #[.int .i64 64, .int .i64 4, .int .i64 2, .int .i64 4, .int .i64 2, .int .i64 4, .int .u64 1, .int .u64 4, .int .u64 10, .int .u64 5, .int .u64 1, .int .u64 20, .int .u64 4000, .int .u64 20, .int .u64 0, .slice (some ⟨w.heap.size + 1, 0, none⟩) 2 2, .slice (some ⟨w.heap.size + 1 + 1 + 1 + 1, 0, none⟩) 2 2])) w' := by
  refine ⟨w.heap.size + 1, w.heap.size + 1 + 1, w.heap.size + 1 + 1 + 1, w.heap.size + 1 + 1 + 1 + 1, Ud _ _ _ _, us, rfl, rfl, rfl, ?_, by omega, ?_⟩
  · subst hw
    refine ⟨?_, ?_, ?_, ?_⟩
    · have := (((blk_new (w.alloc o) [.int .i64 0, .int .i64 1] 3).alloc (.cells #[.int .i64 0, .int .i64 1] 3)).alloc (.cells #[.int .i64 2] 3)).alloc (.cells #[.slice (some ⟨w.heap.size + 1 + 1, 0, none⟩) 2 2, .int .i64 1, .int .i64 4, .int .i64 8, .int .i64 1, .int .i64 1, .int .i64 1, .int .i64 3, .slice (some ⟨w.heap.size + 1 + 1 + 1, 0, none⟩) 1 1, .int .i64 0, .int .i64 2, .int .i64 6, .int .i64 1, .int .i64 1, .int .i64 1, .int .i64 3] 53)
      simpa using this
    · have := ((blk_new ((w.alloc o).alloc (.cells #[.int .i64 0, .int .i64 1] 3)) [.int .i64 0, .int .i64 1] 3).alloc (.cells #[.int .i64 2] 3)).alloc (.cells #[.slice (some ⟨w.heap.size + 1 + 1, 0, none⟩) 2 2, .int .i64 1, .int .i64 4, .int .i64 8, .int .i64 1, .int .i64 1, .int .i64 1, .int .i64 3, .slice (some ⟨w.heap.size + 1 + 1 + 1, 0, none⟩) 1 1, .int .i64 0, .int .i64 2, .int .i64 6, .int .i64 1, .int .i64 1, .int .i64 1, .int .i64 3] 53)
      simpa using this
    · have := (blk_new (((w.alloc o).alloc (.cells #[.int .i64 0, .int .i64 1] 3)).alloc (.cells #[.int .i64 0, .int .i64 1] 3)) [.int .i64 2] 3).alloc (.cells #[.slice (some ⟨w.heap.size + 1 + 1, 0, none⟩) 2 2, .int .i64 1, .int .i64 4, .int .i64 8, .int .i64 1, .int .i64 1, .int .i64 1, .int .i64 3, .slice (some ⟨w.heap.size + 1 + 1 + 1, 0, none⟩) 1 1, .int .i64 0, .int .i64 2, .int .i64 6, .int .i64 1, .int .i64 1, .int .i64 1, .int .i64 3] 53)
      simpa using this
    · have := blk_new ((((w.alloc o).alloc (.cells #[.int .i64 0, .int .i64 1] 3)).alloc (.cells #[.int .i64 0, .int .i64 1] 3)).alloc (.cells #[.int .i64 2] 3)) [.slice (some ⟨w.heap.size + 1 + 1, 0, none⟩) 2 2, .int .i64 1, .int .i64 4, .int .i64 8, .int .i64 1, .int .i64 1, .int .i64 1, .int .i64 3, .slice (some ⟨w.heap.size + 1 + 1 + 1, 0, none⟩) 1 1, .int .i64 0, .int .i64 2, .int .i64 6, .int .i64 1, .int .i64 1, .int .i64 1, .int .i64 3] 53
      simpa using this
  · subst hw
    have h1 := below_new w o
    have h2 := h1.alloc h1.size (.cells #[.int .i64 0, .int .i64 1] 3)
    have h3 := h2.alloc h2.size (.cells #[.int .i64 0, .int .i64 1] 3)
    have h4 := h3.alloc h3.size (.cells #[.int .i64 2] 3)
    exact h4.alloc h4.size _
end Go.Proofs.YtdempgjhjcjklaaGreat
/- Pools whose free blocks are known as lists: which frame is told next; the chapter's example; no condition but those that each theorem names. -/
namespace Go.Proofs.YtdempgjhjcjklaaGreat.P
open Go.ChangeShapes Go.WideShapes Go.ChangeAt Go.RowKit
set_option linter.unusedVariables false

/-- The free blocks of each colour are these lists. -/
def Lv (P : Par) (us : Us) (Lc : Nat → Nat → List Nat) : Prop := ∀ i, i < P.k → ∃ tk, B.St P.N (opn P us i) (Lc i) tk
theorem lv_new (P : Par) : Lv P (fun _ => none) (fun _ => B.nwL P.N) := fun i hi => ⟨fun _ => none, by rw [opn_new]; exact B.St.new P.N⟩
theorem Lv.fre {P : Par} {us : Us} {Lc : Nat → Nat → List Nat} (h : Lv P us Lc) {i : Nat} (hi : i < P.k) : fre P us i = B.fr (Lc i) := by
  obtain ⟨tk, st⟩ := h i hi
  exact st.cn
theorem Lv.best {P : Par} {us : Us} {Lc : Nat → Nat → List Nat} (h : Lv P us Lc) (hk : 1 ≤ P.k) : best P us = bs (fun i => B.fr (Lc i)) (P.k - 1) := bs_congr _ (fun i hi => h.fre (by omega))
theorem Lv.nx {P : Par} {us : Us} {Lc : Nat → Nat → List Nat} (h : Lv P us Lc) {i o k a : Nat} {r : List Nat} (hi : i < P.k) (ho : o ≤ k) (hk : k ≤ 6) (he : ∀ j, j < k → o ≤ j → Lc i j = []) (hL : Lc i k = a :: r) : Nx (opn P us i) o a := by
  obtain ⟨tk, st⟩ := h i hi
  exact st_nx st ho hk (fun j h1 h2 => he j h2 h1) hL
theorem Lv.no {P : Par} {us : Us} {Lc : Nat → Nat → List Nat} (h : Lv P us Lc) {i o : Nat} (hi : i < P.k) (he : ∀ j, j < 7 → o ≤ j → Lc i j = []) (a : Nat) : ¬ Nx (opn P us i) o a := by
  obtain ⟨tk, st⟩ := h i hi
  exact st_no_nx st (fun j h1 h2 => he j (by omega) h1) a
theorem Lv.mark {P : Par} (hP : P.Ok) {us : Us} {Lc : Nat → Nat → List Nat} (h : Lv P us Lc) {i k a : Nat} {r : List Nat} (hi : i < P.k) (hk : k ≤ 6) (he : ∀ j, j < k → Lc i j = []) (hL : Lc i k = a :: r) (u : Nat) : Lv P (B.pt us (fm P i a) (some u)) (B.put Lc i (B.tkL (Lc i) 0 k a)) := by
  intro j hj
  by_cases e : j = i
  · subst e
    obtain ⟨tk, st⟩ := h j hj
    have s1 := (st.take (Nat.zero_le _) hk (fun m _ h2 => he m h2) hL).1
    rw [Nat.pow_zero, Nat.div_one] at s1
    refine ⟨B.pt tk a (some 0), ?_⟩
    rw [B.put_same, opn_same hP hj u]
    exact s1
  · obtain ⟨tk, st⟩ := h j hj
    refine ⟨tk, ?_⟩
    rw [B.put_other _ _ _ _ e, opn_other hP hi hj e]
    exact st
theorem Lv.take {P : Par} (hP : P.Ok) {us us' : Us} {Lc : Nat → Nat → List Nat} (h : Lv P us Lc) {i k a u g : Nat} {r : List Nat} (hb : bs (fun i => B.fr (Lc i)) (P.k - 1) = i) (hk : k ≤ 6) (he : ∀ j, j < k → Lc i j = []) (hL : Lc i k = a :: r) (hT : Tkn P us u g us') :
    g = fm P i a ∧ us' = B.pt us (fm P i a) (some u) ∧ Lv P us' (B.put Lc i (B.tkL (Lc i) 0 k a)) := by
  have hi := best_lt hP us
  rw [h.best hP.k1, hb] at hi
  have hn : Nx (opn P us i) 0 a := h.nx hi (Nat.zero_le _) hk (fun j h1 _ => he j h1) hL
  obtain ⟨a', h1, h2, h3⟩ := hT
  rw [h.best hP.k1, hb] at h1 h2
  obtain rfl := h1.uniq hn
  subst h2
  exact ⟨rfl, h3, by rw [h3]; exact h.mark hP hi hk he hL u⟩
theorem Lv.image {P : Par} (hP : P.Ok) {us : Us} {Lc : Nat → Nat → List Nat} (h : Lv P us Lc) {k a : Nat} {r : List Nat} (ho : P.o ≤ k) (hk : k ≤ 6) (he : ∀ j, j < k → P.o ≤ j → Lc 0 j = []) (hL : Lc 0 k = a :: r) : Lv P (mkI P us a (2 ^ P.o)) (B.put Lc 0 (B.tkL (Lc 0) P.o k a)) := by
  intro j hj
  by_cases e : j = 0
  · subst e
    obtain ⟨tk, st⟩ := h 0 hj
    obtain ⟨s1, _, s3, _⟩ := st.take ho hk (fun m h1 h2 => he m h2 h1) hL
    refine ⟨B.pt tk a (some P.o), ?_⟩
    rw [B.put_same, opn_image hP us s3]
    exact s1
  · obtain ⟨tk, st⟩ := h j hj
    refine ⟨tk, ?_⟩
    rw [B.put_other _ _ _ _ e, opn_mk_other hP us a _ hj e]
    exact st
/-! ### The chapter's example -/
def PU : Par := par us 0
theorem PU_ok : PU.Ok := par_ok (may_iff.1 us_may) (by decide)
def L1 : Nat → Nat → List Nat := B.put (fun _ => B.nwL 16) 0 (B.tkL (B.nwL 16) 1 4 0)
def L2 : Nat → Nat → List Nat := B.put L1 1 (B.tkL (L1 1) 0 4 0)
def L3 : Nat → Nat → List Nat := B.put L2 1 (B.tkL (L2 1) 0 0 1)
theorem u_nx : Nx (opn PU (fun _ => none) 0) PU.o 0 := (lv_new PU).nx (i := 0) (k := 4) (r := []) (by decide) (by decide) (by decide) (by decide) (by decide)
def u1 : Us := mkI PU (fun _ => none) 0 (2 ^ PU.o)
theorem u1_lv : Lv PU u1 L1 := (lv_new PU).image PU_ok (k := 4) (r := []) (by decide) (by decide) (by decide) (by decide)
theorem u2_of {g : Nat} {us' : Us} (h : Tkn PU u1 2 g us') : g = 1 ∧ us' = B.pt u1 1 (some 2) ∧ Lv PU us' L2 := u1_lv.take PU_ok (i := 1) (k := 4) (a := 0) (r := []) (by decide) (by decide) (by decide) (by decide) h
theorem u3_of {g : Nat} {us2 us' : Us} (h2 : Lv PU us2 L2) (h : Tkn PU us2 3 g us') : g = 5 ∧ us' = B.pt us2 5 (some 3) ∧ Lv PU us' L3 := h2.take PU_ok (i := 1) (k := 0) (a := 1) (r := []) (by decide) (by decide) (by decide) (by decide) h
theorem u_room : Room PU (fun _ => none) 0 (2 ^ PU.o) := room_of (u_nx.wh.1) (u_nx.wh.2)
theorem u1_c (u : Nat) (h : u ≠ 1) : cU u1 u 4096 = 0 := by
  unfold u1
  rw [cU_mk PU_ok u_room u (Nat.le_refl _), cU_none, if_neg h]
theorem u2_c : cU (B.pt u1 1 (some 2)) 3 4096 = 0 := by
  have h : u1 1 = none := by decide
  rw [cU_take h 2 3 (by omega), u1_c 3 (by omega)]
  simp
theorem u_img : imgL PU 0 (2 ^ PU.o) = [0, 4] := by decide
theorem u3_fr {us : Us} (h : Lv PU us L3) : frs PU us PU.k = [14, 14] := by
  have e0 : fre PU us 0 = 14 := (h.fre (i := 0) (by decide)).trans (by decide)
  have e1 : fre PU us 1 = 14 := (h.fre (i := 1) (by decide)).trans (by decide)
  show (List.range 2).map (fun i => (fre PU us i : Int)) = [14, 14]
  simp [List.range, List.range.loop, e0, e1]
theorem u3_at : (B.pt (B.pt u1 1 (some 2)) 5 (some 3)) 1 = some 2 := by decide
theorem u4_at : (B.pt (B.pt (B.pt u1 1 (some 2)) 5 (some 3)) 1 none) 0 = some 1 := by decide
/-- What is read of a list of the call's own. -/
theorem Is.arg {w : World} {base : Nat} {v : Value} {l : List Int} (h : Is w base v l) : ∃ a c, v = .slice a l.length c ∧ Arg w a l.length (fun i => l.getD i 0) := by
  rcases h.own.shape with ⟨rfl, rfl⟩ | ⟨g, cap, L, rfl, hb, h1, h2, h3, h4⟩
  · exact ⟨_, _, rfl, Or.inl rfl⟩
  · refine ⟨_, _, rfl, Or.inr ⟨g, 0, rfl, hb.lt, fun i hi => ?_⟩⟩
    rw [Nat.zero_add, hb.cell i, ← List.getElem?_take_of_lt hi, h4, B.tv_get]
    simp [List.getD_eq_getElem?_getD, hi]
end Go.Proofs.YtdempgjhjcjklaaGreat.P
