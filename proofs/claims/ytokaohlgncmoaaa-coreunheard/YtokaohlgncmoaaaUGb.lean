/- What a core's made and touch give back and leave; no condition. -/
import Derived.Test.YtokaohlgncmoaaaUGa
import Derived.Test.YtokaohlgncmoaaaUHf
import Derived.Deep.RegionHeld3
namespace Go.Proofs.Ytokaohlgncmoaaa.E
open Go.ChangeShapes Go.WideShapes Go.ChangeAt Go.RowKit
set_option linter.unusedVariables false
set_option maxRecDepth 8192

theorem made_ok {w : World} {p : Nat} {a : Addr} (hc : w.cell? ⟨p, 3, none⟩ = some (.pointer (some a))) : Calls Try.prog 24 #[.pointer (some ⟨p, 0, none⟩)] w fun e w' => e = .returned (.bool true) ∧ w' = w := by
  go_enter Try.func24, Try.ntmps24
  go_wp2
  go_ret
  exact ⟨rfl, rfl⟩
theorem Cw.c0 {w : World} {G : Nat → Nat → Prop} {P : Pl} {h : Hw} {s : Sc} (K : Cw pK w G P h s) : w.cell? ⟨P.h, 0, none⟩ = some (.pointer (some ⟨P.m, 0, none⟩)) := K.st.cell 0
theorem Cw.c1 {w : World} {G : Nat → Nat → Prop} {P : Pl} {h : Hw} {s : Sc} (K : Cw pK w G P h s) : w.cell? ⟨P.h, 1, none⟩ = some (.pointer (some ⟨P.t, 0, none⟩)) := K.st.cell 1
theorem Cw.c3 {w : World} {G : Nat → Nat → Prop} {P : Pl} {h : Hw} {s : Sc} (K : Cw pK w G P h s) : w.cell? ⟨P.h, 3, none⟩ = some (.pointer (some ⟨P.a, 0, none⟩)) := K.st.cell 3
theorem Cw.c4 {w : World} {G : Nat → Nat → Prop} {P : Pl} {h : Hw} {s : Sc} (K : Cw pK w G P h s) : w.cell? ⟨P.h, 4, none⟩ = some (.pointer (some ⟨P.b, 0, none⟩)) := K.st.cell 4
theorem Cw.c5 {w : World} {G : Nat → Nat → Prop} {P : Pl} {h : Hw} {s : Sc} (K : Cw pK w G P h s) : w.cell? ⟨P.h, 5, none⟩ = some (.int .i64 h.s) := K.st.cell 5
theorem Cw.c6 {w : World} {G : Nat → Nat → Prop} {P : Pl} {h : Hw} {s : Sc} (K : Cw pK w G P h s) : w.cell? ⟨P.h, 6, none⟩ = some (.int .i64 h.c) := K.st.cell 6
theorem Cw.cz {w : World} {G : Nat → Nat → Prop} {P : Pl} {h : Hw} {s : Sc} (K : Cw pK w G P h s) : w.cell? ⟨P.h, 13, none⟩ = some (.int .u64 s.z) := K.st.cell 13
def Sxc (w : World) (g : Nat) (c : Co) : Prop := w.cell? ⟨g, 7, none⟩ = some (.int .u64 c.l1) ∧ w.cell? ⟨g, 8, none⟩ = some (.int .u64 c.llc) ∧ w.cell? ⟨g, 9, none⟩ = some (.int .u64 c.mi) ∧ w.cell? ⟨g, 10, none⟩ = some (.int .u64 c.fa) ∧ w.cell? ⟨g, 11, none⟩ = some (.int .u64 c.st) ∧ w.cell? ⟨g, 12, none⟩ = some (.int .u64 c.di)
theorem Cw.cc {w : World} {G : Nat → Nat → Prop} {P : Pl} {h : Hw} {s : Sc} (K : Cw pK w G P h s) : Sxc w P.h h.co := ⟨K.st.cell 7, K.st.cell 8, K.st.cell 9, K.st.cell 10, K.st.cell 11, K.st.cell 12⟩
structure Tt (X0 : Nat → Prop) (w0 w : World) (G : Nat → Nat → Prop) (P : Pl) (h : Hw) (s : Sc) (r m : Nat) (x y : Bool) : Prop where
  c : Cw pK w G P h s
  k : C.Kp X0 (un G) w0 w
  br : C.Blk w r 39 [.bool false, .bool false]
  bm : C.Blk w m 39 [.bool x, .bool y]
  nr : ¬ un G r
  nm : ¬ un G m
  rm : r ≠ m
  hr : w0.heap.size ≤ r
  hm : w0.heap.size ≤ m
theorem Tt.drew {X0 : Nat → Prop} {w0 w : World} {G : Nat → Nat → Prop} {P : Pl} {h : Hw} {s : Sc} {r m : Nat} {x y : Bool} (K : Tt X0 w0 w G P h s r m x y) : Tt X0 w0 w.drew G P h s r m x y :=
  ⟨K.c.of_eq (Nat.le_refl _) (fun _ _ => rfl), K.k.trans (kp_of_below _ ((Below.refl _ _).drew)), K.br, K.bm, K.nr, K.nm, K.rm, K.hr, K.hm⟩
theorem Tt.below {X0 : Nat → Prop} {w0 w w' : World} {G : Nat → Nat → Prop} {P : Pl} {h : Hw} {s : Sc} {r m : Nat} {x y : Bool} (K : Tt X0 w0 w G P h s r m x y) (b : Below w.heap.size w w') : Tt X0 w0 w' G P h s r m x y :=
  ⟨K.c.of_eq b.size (fun i ⟨j, hj⟩ => b.block i (K.c.lt j i hj)), K.k.trans (kp_of_below _ b), K.br.of_eq (b.block r K.br.lt), K.bm.of_eq (b.block m K.bm.lt), K.nr, K.nm, K.rm, K.hr, K.hm⟩
theorem Tt.turn {X0 : Nat → Prop} {w0 w w' : World} {G G' : Nat → Nat → Prop} {P : Pl} {h : Hw} {s s' : Sc} {r m : Nat} {x y : Bool} (K : Tt X0 w0 w G P h s r m x y) (c : Cw pK w' G' P h s') (k : C.Kp (un G) (un G') w w') : Tt X0 w0 w' G' P h s' r m x y := by
  have out : ∀ a, a < w.heap.size → ¬ un G a → ¬ un G' a := by
    intro a ha hn q
    rcases k.new a q with q | q
    · exact hn q
    · omega
  exact ⟨c, K.k.trans k, K.br.of_eq (k.block r K.br.lt K.nr), K.bm.of_eq (k.block m K.bm.lt K.nm), out r K.br.lt K.nr, out m K.bm.lt K.nm, K.rm, K.hr, K.hm⟩
theorem Tt.met {X0 : Nat → Prop} {w0 w : World} {G : Nat → Nat → Prop} {P : Pl} {h : Hw} {s : Sc} {r m : Nat} {x y : Bool} (K : Tt X0 w0 w G P h s r m x y) (i : Nat) (v : Bool) (x' y' : Bool) (e : [Value.bool x, .bool y].set i (.bool v) = [.bool x', .bool y']) :
    Tt X0 w0 (w.setCell ⟨m, i, none⟩ (.bool v)) G P h s r m x' y' := by
  have g := C.grown_setCell' w m i (.bool v)
  have hb := K.bm.set i (.bool v)
  rw [e] at hb
  refine ⟨K.c.of_eq g.size (fun a ha => g.block a (by obtain ⟨j, hj⟩ := ha; exact K.c.lt j a hj) (C.some_ne (fun q => K.nm (q ▸ ha)))), ⟨g.os.trans K.k.os, g.tape.trans K.k.tape, g.output.trans K.k.output, Nat.le_trans K.k.size g.size, fun a ha hn => (g.block a (Nat.lt_of_lt_of_le ha K.k.size) (C.some_ne (by have := K.hm; omega))).trans (K.k.block a ha hn), K.k.new⟩,
    K.br.kept g (C.some_ne K.rm), hb, K.nr, K.nm, K.rm, K.hr, K.hm⟩
theorem tt_new {w : World} {G : Nat → Nat → Prop} {P : Pl} {h : Hw} {s : Sc} (K : Cw pK w G P h s) : Tt (un G) w ((w.alloc (.cells #[.bool false, .bool false] 39)).alloc (.cells #[.bool false, .bool false] 39)) G P h s w.heap.size (w.heap.size + 1) false false := by
  have b : Below w.heap.size w ((w.alloc (.cells #[.bool false, .bool false] 39)).alloc (.cells #[.bool false, .bool false] 39)) := ((Below.refl _ _).alloc (Nat.le_refl _) _).alloc (by simp) _
  have lt : ∀ a, un G a → a < w.heap.size := fun a ⟨j, hj⟩ => K.lt j a hj
  refine ⟨K.of_eq b.size (fun i hi => b.block i (lt i hi)), kp_of_below _ b, ?_, ?_, fun q => by have := lt _ q; omega, fun q => by have := lt _ q; omega, by omega, by omega, by omega⟩
  · exact (C.blk_new w [.bool false, .bool false] 39).kept (World.grownBy_alloc _ _ none) (by simp)
  · have := C.blk_new (w.alloc (.cells #[.bool false, .bool false] 39)) [.bool false, .bool false] 39
    simpa using this
theorem Try.infoH : (Try.prog.info? 39).map (·.size) = some 2 := by kernel_rfl
theorem Tt.fin {X0 : Nat → Prop} {w0 w : World} {G : Nat → Nat → Prop} {P : Pl} {h : Hw} {s : Sc} {r m : Nat} {x y : Bool} (K : Tt X0 w0 w G P h s r m x y) (z : Int) (z0 : 0 ≤ z) (z1 : z < 18446744073709551616) {w9 : World} (e : w9 = ((w.setCell ⟨P.h, 13, none⟩ (.int .u64 z)).setCell ⟨r, 0, none⟩ (.bool x)).setCell ⟨r, 1, none⟩ (.bool y)) :
    C.Blk w9 r 39 [.bool x, .bool y] ∧ Gv pK w0 X0 P.h h { s with z := z } w9 := by
  subst e
  obtain ⟨c1, k1⟩ := K.c.t0 z z0 z1
  have T1 := K.turn c1 k1
  have b1 := (T1.br.set 0 (.bool x)).set 1 (.bool y)
  have g1 := C.grown_setCell' (w.setCell ⟨P.h, 13, none⟩ (.int .u64 z)) r 0 (.bool x)
  have g2 := C.grown_setCell' ((w.setCell ⟨P.h, 13, none⟩ (.int .u64 z)).setCell ⟨r, 0, none⟩ (.bool x)) r 1 (.bool y)
  have g := g1.trans g2
  refine ⟨b1, un G, ⟨G, P, T1.c.of_eq g.size (fun a ha => g.block a (by obtain ⟨j, hj⟩ := ha; exact T1.c.lt j a hj) (C.some_ne (fun q => T1.nr (q ▸ ha)))), rfl, rfl⟩, ?_⟩
  exact ⟨g.os.trans T1.k.os, g.tape.trans T1.k.tape, g.output.trans T1.k.output, Nat.le_trans T1.k.size g.size, fun a ha hn => (g.block a (Nat.lt_of_lt_of_le ha T1.k.size) (C.some_ne (by have := T1.hr; omega))).trans (T1.k.block a ha hn), T1.k.new⟩
set_option maxHeartbeats 1000000 in
theorem touch_ok {w : World} {X : Nat → Prop} {p : Nat} {h : Hw} {s : Sc} (K : Cr pK w X p h s) (pa : Nat) (hp : pa < h.n * 256) :
    Calls Try.prog 26 #[.pointer (some ⟨p, 0, none⟩), .int .u64 pa] w fun e w' => e = .returned (.agg #[.bool (hA h s pa), .bool (hB h s pa)]) ∧ Gv pK w X p h (tou h s pa) w' := by
  obtain ⟨G, P, K, rfl, rfl⟩ := K
  have ok := K.ok
  have n2 := ok.n2
  have hpa : pa < 1048576 := by omega
  have HT : Hid (Tt (un G) w _ G P h s w.heap.size (w.heap.size + 1) false false) := tt_new K
  have hs1 := ok.s1
  have hs2 := ok.s2
  have hlt := K.st.lt
  have HO : Hid h.Ok := ok
  have hl4 : pa / 16 < 65536 := by omega
  clear K ok hp
  obtain ⟨t, ht⟩ : ∃ t, pa / 16 = t := ⟨_, rfl⟩
  have CL : Hid (∀ w : World, Calls Try.prog 46 #[.int .u64 pa] w fun e w' => e = .returned (.tuple #[.int .i64 t, .int .i64 0]) ∧ w' = w) := fun w => by rw [← ht]; exact Line_ok pa hpa w
  rw [ht] at hl4
  go_enter Try.func26, Try.ntmps26
  go_wp2_with (go_at_call 46; refine (CL.out _).mono ?_; rintro e w' ⟨rfl, rfl⟩)
  generalize hW : ((w.alloc (.cells #[.bool false, .bool false] 39)).alloc (.cells #[.bool false, .bool false] 39)) = W at *
  clear hW
  have HD : Hid (Tt (un G) w W.drew G P h s w.heap.size (w.heap.size + 1) false false) := HT.out.drew
  have hsn : ¬ (h.s : Int) = 0 := by omega
  have hsn' : ¬ h.s = 0 := by omega
  have hmd : (t : Int).tmod (h.s : Int) = ((t % h.s : Nat) : Int) := by rw [Int.tmod_eq_emod_of_nonneg (by omega)]; omega
  have hi : t % h.s < h.s := Nat.mod_lt _ hs1
  obtain ⟨b, hb⟩ : ∃ b, hA h s pa = b := ⟨_, rfl⟩
  have hb' : decide ((t : Int) ∈ s.a (t % h.s)) = b := by rw [← hb]; unfold hA tg i1; rw [ht]
  obtain ⟨s1, hs'⟩ : ∃ s1 : Sc, { s with a := C.put s.a (t % h.s) (C.tch h.v (t : Int) (s.a (t % h.s))) } = s1 := ⟨_, rfl⟩
  have HB : Hid (hA h s pa = b) := hb
  have HB' : Hid (decide ((t : Int) ∈ s.a (t % h.s)) = b) := hb'
  have HS1 : Hid ({ s with a := C.put s.a (t % h.s) (C.tch h.v (t : Int) (s.a (t % h.s))) } = s1) := hs'
  have HT' : Hid (pa / 16 = t) := ht
  clear hb hb' hs' ht CL
  go_region_held3 (fun V => V.cell? ⟨P.h, 3, none⟩ = some (.pointer (some ⟨P.a, 0, none⟩)) ∧ V.cell? ⟨P.h, 5, none⟩ = some (.int .i64 h.s))
    (first | exact ⟨X2.out.c.c3, X2.out.c.c5⟩ | exact ⟨X1.out.c.c3, X1.out.c.c5⟩ | exact ⟨HD.out.c.c3, HD.out.c.c5⟩)
    (first | (go_at_call 47; rw [show (t : Int) % (h.s : Int) = ((t % h.s : Nat) : Int) from (Int.natCast_emod t h.s).symm]; refine (C.Touch_ok HD.out.c.l1 (t % h.s) hi (t : Int) (by omega) (by omega)).mono ?_; rw [HB'.out]; rintro e w1 ⟨rfl, F1, ca1, kp1⟩; obtain ⟨G1, cw1, kg1⟩ := HD.out.c.t4 ca1 kp1; rw [HS1.out] at cw1; have X1 : Hid (Tt (un G) w w1 G1 P h s1 w.heap.size (w.heap.size + 1) false false) := HD.out.turn cw1 kg1; have X2 : Hid (Tt (un G) w (w1.setCell ⟨w.heap.size + 1, 0, none⟩ (.bool b)) G1 P h s1 w.heap.size (w.heap.size + 1) b false) := X1.out.met 0 b b false rfl; have m0 := X1.out.bm.cell 0; have f0 := X1.out.bm.frozen 0; clear ca1 kp1 cw1 kg1))
  clear X1 HD HT m0 f0
  generalize hw2 : (w1.setCell ⟨w.heap.size + 1, 0, none⟩ (.bool b)) = w2 at *
  clear hw2
  have HF : Hid (Tt (un G) w w2 G1 P h s1 w.heap.size (w.heap.size + 1) b false) := X2.out
  clear X2
  have m0 := HF.out.bm.cell 0
  simp only [List.getElem?_cons_zero] at m0
  cases b
  case' true =>
    have HR : Hid (∃ G', Tt (un G) w w2 G' P h { tou h s pa with z := s.z } w.heap.size (w.heap.size + 1) (hA h s pa) (hB h s pa)) := by
      refine ⟨G1, ?_⟩
      have e1 : hB h s pa = false := by unfold hB; rw [HB.out]; rfl
      have e2 : { tou h s pa with z := s.z } = s1 := by
        rw [← HS1.out]
        unfold tou i1 tg
        rw [HB.out, HT'.out]
        rfl
      rw [e1, e2, HB.out]
      exact HF.out
    clear HF
    go_wp2_with fail
  case' false =>
    have hc := HO.out.c1
    have hc' := HO.out.c2
    have c6 := HF.out.c.c6
    have c4 := HF.out.c.c4
    have CS : Hid (∀ w : World, Calls Try.prog 48 #[.int .u64 pa, .int .i64 h.c] w fun e w' => e = .returned (.tuple #[.int .i64 ((i2 h pa : Nat) : Int), .int .i64 0]) ∧ w' = w) := fun w => by
      have := K.Set_ok (pa : Int) (h.c : Int) (by omega) (by omega) (by omega) (by omega) w
      have e : K.st (pa : Int) (h.c : Int) = ((i2 h pa : Nat) : Int) := by unfold K.st i2; push_cast; rfl
      rw [e] at this
      exact this
    have hi2 := i2_lt HO.out pa
    obtain ⟨j, hj⟩ : ∃ j, i2 h pa = j := ⟨_, rfl⟩
    have HJ : Hid (i2 h pa = j) := hj
    rw [hj] at CS hi2
    clear hj
    obtain ⟨d, hd⟩ : ∃ d, decide ((t : Int) ∈ s.b j) = d := ⟨_, rfl⟩
    have HDd : Hid (decide ((t : Int) ∈ s.b j) = d) := hd
    clear hd
    have hsb : s1.b = s.b := by rw [← HS1.out]
    have hj256 : j < 256 := by omega
    have HD2 : Hid (decide ((t : Int) ∈ s1.b j) = d) := by unfold Hid; rw [hsb]; exact HDd.out
    go_wp2_with (first | (go_at_call 48; refine (CS.out _).mono ?_; rintro e w' ⟨rfl, rfl⟩) | (go_at_call 47; refine (C.Touch_ok HF.out.c.ll j hi2 (t : Int) (by omega) (by omega)).mono ?_; rw [HD2.out]; rintro e w3 ⟨rfl, F3, ca3, kp3⟩; obtain ⟨G3, cw3, kg3⟩ := HF.out.c.t5 ca3 kp3; have X3 : Hid (Tt (un G) _ w3 G3 P h { s1 with b := C.put s1.b j (C.tch h.k t (s1.b j)) } _ _ false false) := HF.out.turn cw3 kg3; have m1 := X3.out.bm.cell 1; have f1 := X3.out.bm.frozen 1; clear ca3 kp3 cw3 kg3))
    have HR : Hid (∃ G', Tt (un G) w (w3.setCell ⟨w.heap.size + 1, 1, none⟩ (.bool d)) G' P h { tou h s pa with z := s.z } w.heap.size (w.heap.size + 1) (hA h s pa) (hB h s pa)) := by
      refine ⟨G3, ?_⟩
      have e1 : hB h s pa = d := by unfold hB tg; rw [HB.out, HT'.out, HJ.out, HDd.out]; rfl
      have e2 : { tou h s pa with z := s.z } = { s1 with b := C.put s1.b j (C.tch h.k t (s1.b j)) } := by
        rw [← HS1.out]
        unfold tou i1 tg
        rw [HB.out, HT'.out, HJ.out]
        rfl
      rw [e1, e2, HB.out]
      exact X3.out.met 1 d false d rfl
    clear X3 HF m1 f1 m0 CS HDd HJ hsb hj256 hi2 hc hc' c6 c4
    generalize hw4 : (w3.setCell ⟨w.heap.size + 1, 1, none⟩ (.bool d)) = w4 at *
    clear hw4
  all_goals
    obtain ⟨G', HZ0⟩ := HR.out
    have HE0 : { ({ tou h s pa with z := s.z } : Sc) with z := IntKind.u64.wrap (s.z + tc h.co (hA h s pa) (hB h s pa)) } = tou h s pa := rfl
    obtain ⟨s2, hs2e⟩ : ∃ s2 : Sc, { tou h s pa with z := s.z } = s2 := ⟨_, rfl⟩
    have hz2 : s2.z = s.z := by rw [← hs2e]
    rw [hs2e] at HZ0 HE0
    clear hs2e HR HS1 HB HB' HT'
    obtain ⟨x, hx⟩ : ∃ x, hA h s pa = x := ⟨_, rfl⟩
    obtain ⟨y, hy⟩ : ∃ y, hB h s pa = y := ⟨_, rfl⟩
    rw [hx, hy] at HZ0 HE0
    have HX : Hid (hA h s pa = x) := hx
    have HY : Hid (hB h s pa = y) := hy
    clear hx hy
    obtain ⟨v, hv⟩ : ∃ v, tc h.co x y = v := ⟨_, rfl⟩
    have CT : Hid (∀ w : World, Calls Try.prog 49 #[.agg #[.int .u64 h.co.l1, .int .u64 h.co.llc, .int .u64 h.co.mi, .int .u64 h.co.fa, .int .u64 h.co.st, .int .u64 h.co.di], .agg #[.bool x, .bool y]] w (Two v 0 w)) := fun w => by rw [← hv]; exact CTouch_ok h.co HO.out.co x y w
    rw [hv] at HE0
    have HE : Hid ({ s2 with z := IntKind.u64.wrap (s.z + v) } = tou h s pa) := HE0
    have HD : Hid (Tt (un G) w _ G' P h s2 w.heap.size (w.heap.size + 1) x y) := HZ0.drew
    clear hv HE0 HZ0
    go_region_held3 (fun V => (V.cell? ⟨P.h, 7, none⟩ = some (.int .u64 h.co.l1) ∧ V.cell? ⟨P.h, 8, none⟩ = some (.int .u64 h.co.llc) ∧ V.cell? ⟨P.h, 9, none⟩ = some (.int .u64 h.co.mi) ∧ V.cell? ⟨P.h, 10, none⟩ = some (.int .u64 h.co.fa) ∧ V.cell? ⟨P.h, 11, none⟩ = some (.int .u64 h.co.st) ∧ V.cell? ⟨P.h, 12, none⟩ = some (.int .u64 h.co.di)) ∧ V.cell? ⟨w.heap.size + 1, 0, none⟩ = some (.bool x) ∧ V.cell? ⟨w.heap.size + 1, 1, none⟩ = some (.bool y))
      (first | exact ⟨X1.out.c.cc, X1.out.bm.cell 0, X1.out.bm.cell 1⟩ | exact ⟨HD.out.c.cc, HD.out.bm.cell 0, HD.out.bm.cell 1⟩)
      (first | (go_at_call 49; refine (CT.out _).mono ?_; rintro e w5 ⟨rfl, k5⟩; have X1 : Hid (Tt (un G) w w5 G' P h s2 w.heap.size (w.heap.size + 1) x y) := HD.out.below k5; clear k5))
    all_goals
      clear HD CT
      have cz := X1.out.c.cz
      rw [hz2] at cz
      have fz := X1.out.c.st.frozen 13
      have m0 : w5.cell? ⟨w.heap.size + 1, 0, none⟩ = some (.bool x) := X1.out.bm.cell 0
      have m1 : w5.cell? ⟨w.heap.size + 1, 1, none⟩ = some (.bool y) := X1.out.bm.cell 1
      have r0 : w5.cell? ⟨w.heap.size, 0, none⟩ = some (.bool false) := X1.out.br.cell 0
      have r1 : w5.cell? ⟨w.heap.size, 1, none⟩ = some (.bool false) := X1.out.br.cell 1
      have q0 := X1.out.br.frozen 0
      have q1 := X1.out.br.frozen 1
      have hne : P.h ≠ w.heap.size := by omega
      have hne' : P.h ≠ w.heap.size + 1 := by omega
      go_wp2
      obtain ⟨hB9, hG9⟩ := X1.out.fin (IntKind.u64.wrap (s.z + v)) (wrap_u64 _).1 (wrap_u64 _).2 rfl
      rw [HE.out] at hG9
      exact bodyPost_ret (v := .agg #[.bool x, .bool y]) (results_cell_row Try.results26 _ _ w.heap.size 39 _ (0, 0) _ rfl hB9 Try.underlying39 rfl Try.infoH) rfl ⟨by rw [HX.out, HY.out], hG9⟩
end Go.Proofs.Ytokaohlgncmoaaa.E
namespace Go.Proofs.Ytokaohlgncmoaaa.E
open Go.ChangeShapes Go.WideShapes Go.ChangeAt Go.RowKit
set_option linter.unusedVariables false
set_option maxRecDepth 8192

def AU (w : World) (ao : Option Addr) (l : Nat) (f : Nat → Nat) : Prop := l = 0 ∨ ∃ b off, ao = some ⟨b, off, none⟩ ∧ b < w.heap.size ∧ ∀ i, i < l → w.cell? ⟨b, off + i, none⟩ = some (.int .u64 (f i : Nat))
theorem AU.of_eq {w w' : World} {ao : Option Addr} {l : Nat} {f : Nat → Nat} (h : AU w ao l f) (hs : w.heap.size ≤ w'.heap.size) (e : ∀ b off, ao = some ⟨b, off, none⟩ → b < w.heap.size → w'.heap[b]? = w.heap[b]?) : AU w' ao l f := by
  rcases h with h | ⟨b, off, rfl, hb, hc⟩
  · exact Or.inl h
  · exact Or.inr ⟨b, off, rfl, Nat.lt_of_lt_of_le hb hs, fun i hi => (World.cell?_of_block (w := w) (a := ⟨b, off + i, none⟩) (e b off rfl hb)).trans (hc i hi)⟩
theorem AU.below {w w' : World} {ao : Option Addr} {l : Nat} {f : Nat → Nat} (h : AU w ao l f) (k : Below w.heap.size w w') : AU w' ao l f := h.of_eq k.size (fun b _ _ hb => k.block b hb)
theorem AU.kp {w w' : World} {ao : Option Addr} {l : Nat} {f : Nat → Nat} {X X' : Nat → Prop} (h : AU w ao l f) (k : C.Kp X X' w w') (hX : ∀ b off, ao = some ⟨b, off, none⟩ → ¬ X b) : AU w' ao l f := h.of_eq k.size (fun b off e hb => k.block b hb (hX b off e))
theorem AU.at' {w : World} {ao : Option Addr} {l : Nat} {f : Nat → Nat} (h : AU w ao l f) {i : Nat} (hi : i < l) : ∃ b off, ao = some ⟨b, off, none⟩ ∧ w.cell? ⟨b, off + i, none⟩ = some (.int .u64 (f i : Nat)) := by
  rcases h with h | ⟨b, off, e, _, hc⟩
  · omega
  · exact ⟨b, off, e, hc i hi⟩
structure Tk (X0 : Nat → Prop) (w0 w : World) (p : Nat) (h : Hw) (s : Sc) (r m : Nat) (x y : Bool) : Prop where
  c : ∃ X, Cr pK w X p h s ∧ C.Kp X0 X w0 w ∧ ¬ X r ∧ ¬ X m
  br : C.Blk w r 39 [.bool false, .bool false]
  bm : C.Blk w m 39 [.bool x, .bool y]
  rm : r ≠ m
  hr : w0.heap.size ≤ r
  hm : w0.heap.size ≤ m
theorem Tk.au {X0 : Nat → Prop} {w0 w : World} {p : Nat} {h : Hw} {s : Sc} {r m : Nat} {x y : Bool} (K : Tk X0 w0 w p h s r m x y) {ao : Option Addr} {l : Nat} {f : Nat → Nat} (ha : AU w0 ao l f) (hX : ∀ b off, ao = some ⟨b, off, none⟩ → ¬ X0 b) : AU w ao l f := by
  obtain ⟨X, _, k, _⟩ := K.c
  exact ha.kp k hX
theorem Tk.touch {X0 : Nat → Prop} {w0 w : World} {p : Nat} {h : Hw} {s : Sc} {r m : Nat} {x y : Bool} (K : Tk X0 w0 w p h s r m x y) (pa : Nat) (hp : pa < h.n * 256) :
    Calls Try.prog 26 #[.pointer (some ⟨p, 0, none⟩), .int .u64 pa] w fun e w' => e = .returned (.agg #[.bool (hA h s pa), .bool (hB h s pa)]) ∧ Tk X0 w0 w' p h (tou h s pa) r m x y := by
  obtain ⟨X, c, k, nr, nm⟩ := K.c
  refine (touch_ok c pa hp).mono ?_
  rintro e w' ⟨rfl, X', c', k'⟩
  have out : ∀ a, a < w.heap.size → ¬ X a → ¬ X' a := by
    intro a ha hn q
    rcases k'.new a q with q | q
    · exact hn q
    · omega
  exact ⟨rfl, ⟨X', c', k.trans k', out r K.br.lt nr, out m K.bm.lt nm⟩, K.br.of_eq (k'.block r K.br.lt nr), K.bm.of_eq (k'.block m K.bm.lt nm), K.rm, K.hr, K.hm⟩
theorem Tk.met {X0 : Nat → Prop} {w0 w : World} {p : Nat} {h : Hw} {s : Sc} {r m : Nat} {x y : Bool} (K : Tk X0 w0 w p h s r m x y) (i : Nat) (v : Bool) (x' y' : Bool) (e : [Value.bool x, .bool y].set i (.bool v) = [.bool x', .bool y']) :
    Tk X0 w0 (w.setCell ⟨m, i, none⟩ (.bool v)) p h s r m x' y' := by
  obtain ⟨X, c, k, nr, nm⟩ := K.c
  have g := C.grown_setCell' w m i (.bool v)
  have hb := K.bm.set i (.bool v)
  rw [e] at hb
  have hm := K.hm
  refine ⟨⟨X, c.of_eq g.size (fun a ha => g.block a (c.lt a ha) (C.some_ne (fun q => nm (q ▸ ha)))), ⟨g.os.trans k.os, g.tape.trans k.tape, g.output.trans k.output, Nat.le_trans k.size g.size, fun a ha hn => (g.block a (Nat.lt_of_lt_of_le ha k.size) (C.some_ne (by omega))).trans (k.block a ha hn), k.new⟩, nr, nm⟩,
    K.br.kept g (C.some_ne K.rm), hb, K.rm, K.hr, K.hm⟩
theorem Tk.fin {X0 : Nat → Prop} {w0 w : World} {p : Nat} {h : Hw} {s : Sc} {r m : Nat} {x y : Bool} (K : Tk X0 w0 w p h s r m x y) {w9 : World} (u v : Bool) (e : w9 = (w.setCell ⟨r, 0, none⟩ (.bool u)).setCell ⟨r, 1, none⟩ (.bool v)) :
    C.Blk w9 r 39 [.bool u, .bool v] ∧ Gv pK w0 X0 p h s w9 := by
  subst e
  obtain ⟨X, c, k, nr, nm⟩ := K.c
  have b1 := (K.br.set 0 (.bool u)).set 1 (.bool v)
  have g := (C.grown_setCell' w r 0 (.bool u)).trans (C.grown_setCell' (w.setCell ⟨r, 0, none⟩ (.bool u)) r 1 (.bool v))
  have hr := K.hr
  exact ⟨b1, X, c.of_eq g.size (fun a ha => g.block a (c.lt a ha) (C.some_ne (fun q => nr (q ▸ ha)))), ⟨g.os.trans k.os, g.tape.trans k.tape, g.output.trans k.output, Nat.le_trans k.size g.size, fun a ha hn => (g.block a (Nat.lt_of_lt_of_le ha k.size) (C.some_ne (by omega))).trans (k.block a ha hn), k.new⟩⟩
theorem Cr.c3 {w : World} {X : Nat → Prop} {p : Nat} {h : Hw} {s : Sc} (K : Cr pK w X p h s) : ∃ a, w.cell? ⟨p, 3, none⟩ = some (.pointer (some a)) := by
  obtain ⟨G, P, c, rfl, rfl⟩ := K
  exact ⟨_, c.c3⟩
theorem Cr.made {w : World} {X : Nat → Prop} {p : Nat} {h : Hw} {s : Sc} (K : Cr pK w X p h s) : Calls Try.prog 24 #[.pointer (some ⟨p, 0, none⟩)] w fun e w' => e = .returned (.bool true) ∧ w' = w := by
  obtain ⟨a, ha⟩ := K.c3
  exact made_ok ha
theorem Cr.mem {w : World} {X : Nat → Prop} {p : Nat} {h : Hw} {s : Sc} (K : Cr pK w X p h s) : ∃ pm gm, w.cell? ⟨p, 0, none⟩ = some (.pointer (some ⟨pm, 0, none⟩)) ∧ F.Mem w pm gm h.n s.m ∧ p < w.heap.size := by
  obtain ⟨G, P, c, rfl, rfl⟩ := K
  exact ⟨_, _, c.c0, c.mm, c.st.lt⟩
theorem res_hit {tmps : Array Value} {w : World} {r : Nat} {x y : Bool} {e : Int} (hp : tmps.getD 4 undef = .pointer (some ⟨r, 0, none⟩)) (he : tmps.getD 5 undef = .int .i64 e) (hb : C.Blk w r 39 [.bool x, .bool y]) :
    (results Try.f9 tmps).run Try.prog w = .ok (.tuple #[.agg #[.bool x, .bool y], .int .i64 e]) w := by
  rw [results_cell_tmp Try.results9 tmps Try.prog w, hp, he]
  have hl : (loadVar 39 ⟨r, 0, none⟩).run Try.prog w = .ok (.agg #[.bool x, .bool y]) w := run_loadVar_row w r 39 39 _ (0, 0) _ hb Try.underlying39 rfl Try.infoH
  simp [asAddr, hl, Result.andThen]
set_option maxHeartbeats 1000000 in
theorem Touch_ok {w : World} {X : Nat → Prop} {p : Nat} {h : Hw} {s : Sc} (K : Cr pK w X p h s) {ao : Option Addr} {l c : Nat} {f : Nat → Nat} (hl : l ≤ maxLen) (ha : AU w ao l f) (hX : ∀ b off, ao = some ⟨b, off, none⟩ → ¬ X b) (hin : ∀ i, i < l → f i < h.n * 256) :
    Calls Try.prog 9 #[.pointer (some ⟨p, 0, none⟩), .slice ao l c] w fun e w' => e = .returned (.tuple #[.agg #[.bool (lh h s f l).1, .bool (lh h s f l).2], .int .i64 0]) ∧ Gv pK w X p h (tw h s f l) w' := by
  have hn := K.ok.n2
  have hplt : p < w.heap.size := by obtain ⟨_, _, _, _, h⟩ := K.mem; exact h
  have B1 : Below w.heap.size w (w.alloc (.cells #[.bool false, .bool false] 39)) := (Below.refl _ _).alloc (Nat.le_refl _) _
  have b1 := C.blk_new w [.bool false, .bool false] 39
  have HK1 : Hid (Cr pK (w.alloc (.cells #[.bool false, .bool false] 39)) X p h s) := K.below B1
  have HA1 : Hid (AU (w.alloc (.cells #[.bool false, .bool false] 39)) ao l f) := ha.below B1
  have HB1 : Hid (Below w.heap.size w (w.alloc (.cells #[.bool false, .bool false] 39))) := B1
  have HR1 : Hid (C.Blk (w.alloc (.cells #[.bool false, .bool false] 39)) w.heap.size 39 [.bool false, .bool false]) := b1
  have HK0 : Hid (Cr pK w X p h s) := K
  have HA0 : Hid (AU w ao l f) := ha
  have HIN : Hid (∀ i, i < l → f i < h.n * 256) := hin
  have HX : Hid (∀ b off, ao = some ⟨b, off, none⟩ → ¬ X b) := hX
  unfold maxLen at hl
  clear K ha B1 b1 hin hX
  go_enter Try.func9, Try.ntmps9
  go_wp2_with (go_at_call 24; refine HK1.out.made.mono ?_; rintro e w' ⟨rfl, rfl⟩)
  generalize hw1 : w.alloc (.cells #[.bool false, .bool false] 39) = w1 at *
  clear hw1
  obtain ⟨pm, gm, c0, mm, _⟩ := HK1.out.mem
  have HM : Hid (F.Mem w1 pm gm h.n s.m) := mm
  clear mm
  go_loop [19] (fun i => ∃ k : Nat, k ≤ l ∧ i = .int .i64 k) (fun i => l - (D.iv i).toNat)
  case atStart => exact ⟨0, by omega, rfl⟩
  case round =>
    obtain ⟨k, hk, rfl⟩ := hrel
    by_cases hlt : k < l
    case' pos =>
      obtain ⟨b, off, rfl, hc⟩ := HA1.out.at' hlt
      have hf := HIN.out k hlt
      generalize f k = pa at *
      go_wp2_with (go_at_call 25; refine (F.Byte_ok HM.out hn pa hf).mono ?_; rintro e w' ⟨rfl, rfl⟩)
      go_round
      case rel => exact ⟨k + 1, by omega, by go_num⟩
      case measure => simp [D.iv]; omega
    case' neg =>
      obtain rfl : k = l := by omega
      go_wp2_with fail
      have HT0 : Hid (Tk X w (w1.alloc (.cells #[.bool false, .bool false] 39)) p h s w.heap.size w1.heap.size false false) := by
        have b2 : Below w1.heap.size w1 (w1.alloc (.cells #[.bool false, .bool false] 39)) := (Below.refl _ _).alloc (Nat.le_refl _) _
        have hs1 := HB1.out.size
        have hr1 := HR1.out.lt
        refine ⟨⟨X, HK1.out.below b2, kp_of_below _ (HB1.out.trans (b2.mono hs1)), fun q => ?_, fun q => ?_⟩, HR1.out.of_eq (b2.block _ hr1), C.blk_new w1 [.bool false, .bool false] 39, by omega, Nat.le_refl _, hs1⟩
        · have := HK0.out.lt _ q; omega
        · have := HK0.out.lt _ q; omega
      generalize hw2 : w1.alloc (.cells #[.bool false, .bool false] 39) = w2 at *
      clear hw2 HK1 HA1 HB1 HR1 HM c0
      generalize w1.heap.size = m at *
      go_loopw [39] (fun i wr => ∃ j : Nat, j ≤ k ∧ i = .int .i64 j ∧ Tk X w wr p h (tw h s f j) w.heap.size m (lh h s f j).1 (lh h s f j).2) (fun i _ => k - (D.iv i).toNat)
      case atStart => exact ⟨0, by omega, rfl, HT0.out⟩
      case round =>
        obtain ⟨j, hj, rfl, hT⟩ := hrel
        have HT : Hid (Tk X w wr p h (tw h s f j) w.heap.size m (lh h s f j).1 (lh h s f j).2) := hT
        clear hT
        by_cases hjk : j < k
        case' pos =>
          obtain ⟨b, off, rfl, hc⟩ := (HT.out.au HA0.out HX.out).at' hjk
          have hf := HIN.out j hjk
          have HTW : Hid (tw h s f (j + 1) = tou h (tw h s f j) (f j)) := rfl
          have HLH : Hid (lh h s f (j + 1) = (hA h (tw h s f j) (f j), hB h (tw h s f j) (f j))) := rfl
          go_wp2_with fail
          refine (HT.out.touch (f j) hf).mono ?_
          rintro e w3 ⟨rfl, hT3⟩
          rw [← HTW.out] at hT3
          have e1 : hA h (tw h s f j) (f j) = (lh h s f (j + 1)).1 := rfl
          have e2 : hB h (tw h s f j) (f j) = (lh h s f (j + 1)).2 := rfl
          rw [e1, e2]
          have HT3 : Hid (Tk X w w3 p h (tw h s f (j + 1)) w.heap.size m (lh h s f j).1 (lh h s f j).2) := hT3
          have m0 : w3.cell? ⟨m, 0, none⟩ = some (.bool (lh h s f j).1) := hT3.bm.cell 0
          have m1 : w3.cell? ⟨m, 1, none⟩ = some (.bool (lh h s f j).2) := hT3.bm.cell 1
          have q0 := hT3.bm.frozen 0
          have q1 := hT3.bm.frozen 1
          clear hT3 e1 e2 HTW HLH
          generalize (lh h s f j).1 = x0 at *
          generalize (lh h s f j).2 = y0 at *
          have HT4 : Hid (Tk X w ((w3.setCell ⟨m, 0, none⟩ (.bool (lh h s f (j + 1)).1)).setCell ⟨m, 1, none⟩ (.bool (lh h s f (j + 1)).2)) p h (tw h s f (j + 1)) w.heap.size m (lh h s f (j + 1)).1 (lh h s f (j + 1)).2) :=
            (HT3.out.met 0 _ (lh h s f (j + 1)).1 y0 rfl).met 1 _ (lh h s f (j + 1)).1 (lh h s f (j + 1)).2 rfl
          clear HT3 HT HT0
          go_wp2
          go_roundw
          case rel => exact ⟨j + 1, by omega, by go_num, HT4.out⟩
          case measure => simp [D.iv]; omega
        case' neg =>
          obtain rfl : j = k := by omega
          have m0 : wr.cell? ⟨m, 0, none⟩ = some (.bool (lh h s f j).1) := HT.out.bm.cell 0
          have m1 : wr.cell? ⟨m, 1, none⟩ = some (.bool (lh h s f j).2) := HT.out.bm.cell 1
          have r0 : wr.cell? ⟨w.heap.size, 0, none⟩ = some (.bool false) := HT.out.br.cell 0
          have r1 : wr.cell? ⟨w.heap.size, 1, none⟩ = some (.bool false) := HT.out.br.cell 1
          have q0 := HT.out.br.frozen 0
          have q1 := HT.out.br.frozen 1
          have hrm := HT.out.rm
          go_wp2
          obtain ⟨hB9, hG9⟩ := HT.out.fin (lh h s f j).1 (lh h s f j).2 rfl
          exact bodyPost_ret (res_hit rfl rfl hB9) rfl ⟨rfl, hG9⟩
end Go.Proofs.Ytokaohlgncmoaaa.E
namespace Go.Proofs.Ytokaohlgncmoaaa.E
open Go.ChangeShapes Go.WideShapes Go.ChangeAt Go.RowKit
set_option linter.unusedVariables false
set_option maxRecDepth 8192

theorem Settle_ok {w : World} {X : Nat → Prop} {p : Nat} {h : Hw} {s : Sc} (K : Cr pK w X p h s) :
    Calls Try.prog 10 #[.pointer (some ⟨p, 0, none⟩)] w fun e w' => e = .returned (.tuple #[.int .u64 s.z, .int .i64 0]) ∧ Gv pK w X p h { s with z := 0 } w' := by
  have HK : Hid (Calls _ _ _ _ _) := K.made
  obtain ⟨G, P, c, rfl, rfl⟩ := K
  have cz := c.cz
  have fz := c.st.frozen 13
  have FIN : Hid (Gv pK w (un G) P.h h { s with z := 0 } (w.setCell ⟨P.h, 13, none⟩ (.int .u64 0))) := by
    obtain ⟨c', k'⟩ := c.t0 0 (by decide) (by decide)
    exact c'.gv k'
  clear c
  go_enter Try.func10, Try.ntmps10
  go_wp2_with (go_at_call 24; refine HK.out.mono ?_; rintro e w' ⟨rfl, rfl⟩)
  go_ret2
  exact ⟨rfl, FIN.out⟩
def lft (s : Sc) : Sc := { s with a := fun _ => [], l := [] }
def lvC (h : Hw) (s : Sc) : Int := ((C.cnt s.a h.s : Int) + s.l.length) * h.co.st
theorem Leave_ok {w : World} {X : Nat → Prop} {p : Nat} {h : Hw} {s : Sc} (K : Cr pK w X p h s) :
    Calls Try.prog 11 #[.pointer (some ⟨p, 0, none⟩)] w fun e w' => e = .returned (.tuple #[.int .u64 (lvC h s), .int .i64 0]) ∧ Gv pK w X p h (lft s) w' := by
  have HK : Hid (Calls _ _ _ _ _) := K.made
  obtain ⟨G, P, c, rfl, rfl⟩ := K
  have hok := c.ok
  have c3 := c.c3
  have HC : Hid (Calls _ _ _ _ _) := C.Flush_ok c.l1
  obtain ⟨bb, V, hP⟩ := c.l1.parts
  have hcnt := hP.c.cnt h.s (Nat.le_refl _)
  obtain ⟨v, hPt⟩ := c.tl
  have hlen := hPt.c.len
  have HLV : Hid (lvC h s = ((C.cnt s.a h.s : Int) + s.l.length) * h.co.st) := rfl
  have HCw : Hid (Cw pK w G P h s) := c
  have hok' := hok.t2
  have HO : Hid (okC h.co = true) := hok.co
  clear c hP hPt hok
  generalize C.cnt s.a h.s = n1 at *
  obtain ⟨n2, hn2⟩ : ∃ n2, s.l.length = n2 := ⟨_, rfl⟩
  have HN2 : Hid (s.l.length = n2) := hn2
  rw [hn2] at HLV hlen
  clear hn2
  go_enter Try.func11, Try.ntmps11
  go_wp2_with (first
    | (go_at_call 24; refine HK.out.mono ?_; rintro e w' ⟨rfl, rfl⟩)
    | (go_at_call 27; refine HC.out.mono ?_; rintro e w1 ⟨rfl, X1, ca1, kp1⟩; obtain ⟨G1, cw1, kg1⟩ := HCw.out.t4 ca1 kp1; have H1 : Hid (Cw pK w1 G1 P h { s with a := fun _ => [] }) := cw1; have K1 : Hid (C.Kp (un G) (un G1) _ w1) := kg1; have d1 := cw1.c1; clear ca1 kp1 cw1 kg1)
    | (go_at_call 28; refine (T.Empty_ok H1.out.tl).mono ?_; rw [show ({ s with a := fun _ => [] } : Sc).l.length = n2 from HN2.out]; rintro e w2 ⟨rfl, lv2⟩; obtain ⟨G2, cw2, kg2⟩ := H1.out.t2 lv2; have H2 : Hid (Cw pK w2 G2 P h (lft s)) := cw2; have K2 : Hid (C.Kp (un G) (un G2) _ w2) := K1.out.trans kg2; obtain ⟨e7, e8, e9, e10, e11, e12⟩ := cw2.cc; clear lv2 cw2 kg2)
    | (go_at_call 29; refine (Switch_ok h.co HO.out (n1 : Int) (n2 : Int) (by unfold okL; simp [inB]; omega) _).mono ?_; rintro e w3 ⟨rfl, k3⟩; have H3 : Hid (Gv pK _ (un G) P.h h (lft s) w3) := (H2.out.gv K2.out).below k3))
  go_ret2
  exact ⟨by rw [HLV.out]; rfl, H3.out⟩
theorem Cr.fill {w : World} {X : Nat → Prop} {p : Nat} {h : Hw} {s : Sc} (K : Cr pK w X p h s) : ∃ pt, w.cell? ⟨p, 1, none⟩ = some (.pointer (some ⟨pt, 0, none⟩)) ∧
    ∀ w' (x : T.Tr), Below w.heap.size w w' → Calls Try.prog 13 #[.pointer (some ⟨pt, 0, none⟩), .agg #[.int .i64 x.a, .int .i64 x.p, .int .i64 x.f, .bool x.r, .bool x.w, .bool x.d]] w' fun e w2 => e = .returned (.int .i64 (T.filE x)) ∧ Gv pK w X p h { s with l := T.filL h.t x s.l } w2 := by
  obtain ⟨G, P, c, rfl, rfl⟩ := K
  refine ⟨P.t, c.c1, fun w' x hb => ?_⟩
  have c' : Cw pK w' G P h s := c.of_eq hb.size (fun i ⟨j, hj⟩ => hb.block i (c.lt j i hj))
  refine (T.Fill_ok c'.tl x).mono ?_
  rintro e w2 ⟨rfl, lv⟩
  obtain ⟨G2, c2, k2⟩ := c'.t2 lv
  exact ⟨rfl, c2.gv ((kp_of_below _ hb).trans k2)⟩
end Go.Proofs.Ytokaohlgncmoaaa.E
