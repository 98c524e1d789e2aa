/- What New of package pool gives back: the error that the plan tells, or a pool whose frames are all free; no condition but those that each theorem names. -/
import Derived.Test.YtkbpnkjjmipjfaaGreatVQb
import Derived.Test.YtkbpnkjjmipjfaaGreatVPd
namespace Go.Proofs.YtkbpnkjjmipjfaaGreat.P
open Go.ChangeShapes Go.WideShapes Go.ChangeAt Go.RowKit
set_option linter.unusedVariables false
set_option maxRecDepth 8192

def par (c : Cf) (n : Nat) : Par where
  C := c.C.toNat
  N := (c.F / c.C).toNat
  k := (c.pf n).n
  f := fun i => ((c.pf n).f i).toNat
  o := (c.pf n).o.toNat
  q := fun u => if u = 2 then (c.pf n).u.toNat else if u = 3 then (c.pf n).t.toNat else if u = 4 then (c.pf n).s.toNat else if u = 5 then (c.pf n).r.toNat else if u = 6 then (c.pf n).d.toNat else 0
theorem div_frames {c : Cf} (h : c.MOk) : 0 ≤ c.F / c.C ∧ c.F / c.C * c.C = c.F := by
  have h1 := h.F1
  have h2 := h.FC
  rcases h.C with e | e | e | e | e <;> rw [e] at h2 ⊢ <;> omega
structure Prn (c : Cf) (n : Nat) : Prop where
  C : ((par c n).C : Int) = c.C
  N : ((par c n).N : Int) = c.F / c.C
  f : ∀ i, i < (c.pf n).n → ((par c n).f i : Int) = (c.pf n).f i ∧ 0 ≤ (c.pf n).f i ∧ (c.pf n).f i < c.C
  o : ((par c n).o : Int) = (c.pf n).o
  q2 : ((par c n).q 2 : Int) = (c.pf n).u
  q3 : ((par c n).q 3 : Int) = (c.pf n).t
  q4 : ((par c n).q 4 : Int) = (c.pf n).s
  q5 : ((par c n).q 5 : Int) = (c.pf n).r
  q6 : ((par c n).q 6 : Int) = (c.pf n).d
theorem prn_of {c : Cf} (h : c.Ok) {n : Nat} (hn : n < c.pn) : Prn c n := by
  have k := h.part hn
  have h1 := div_frames h.m
  have hC : 1 ≤ c.C := by rcases h.m.C with e | e | e | e | e <;> omega
  have k1 := k.o0
  have k2 := k.u0
  have k3 := k.t0
  have k4 := k.s0
  have k5 := k.r0
  have k6 := k.d0
  refine ⟨by simp only [par]; omega, by simp only [par]; omega, fun i hi => ?_, by simp only [par]; omega, ?_, ?_, ?_, ?_, ?_⟩
  · have := rise_at k.ri hi
    exact ⟨by simp only [par]; omega, this.1, this.2.1⟩
  all_goals simp [par]; omega
theorem im_pow {x : Pa} (h0 : 0 ≤ x.o) (h1 : x.o ≤ 3) : im x = ((2 ^ x.o.toNat : Nat) : Int) := by
  unfold im
  rw [Int.natCast_pow]
  rfl
theorem par_ok {c : Cf} (h : c.Ok) {n : Nat} (hn : n < c.pn) : (par c n).Ok := by
  have k := h.part hn
  have r := prn_of h hn
  have h1 := div_frames h.m
  have hC : c.C = 1 ∨ c.C = 2 ∨ c.C = 4 ∨ c.C = 8 ∨ c.C = 16 := h.m.C
  have hfit := k.fit (mOk_iff.2 h.m)
  unfold fit at hfit
  rw [Bool.and_eq_true, decide_eq_true_eq, decide_eq_true_eq, im_pow k.o0 k.o1] at hfit
  have rC := r.C
  have rN := r.N
  have ro := r.o
  have q2 := r.q2
  have q3 := r.q3
  have q4 := r.q4
  have q5 := r.q5
  have q6 := r.q6
  have ro' : (c.pf n).o.toNat = (par c n).o := rfl
  have rk : (par c n).k = (c.pf n).n := rfl
  have hF2 := h.m.F2
  have k1 := k.o1
  have k2 := k.u1
  have k3 := k.t1
  have k4 := k.s1
  have k5 := k.r1
  have k6 := k.d1
  have hlen := rise_len k.ri k.n0
  rw [ro'] at hfit
  have e2 : ((par c n).N * (par c n).C : Nat) = c.F.toNat := by
    have : (((par c n).N * (par c n).C : Nat) : Int) = c.F := by rw [Int.natCast_mul, rN, rC]; exact h1.2
    omega
  have e3 : (((par c n).k * (par c n).N : Nat) : Int) = (c.pf n).n * (c.F / c.C) := by rw [Int.natCast_mul, rN, rk]
  refine ⟨by omega, by omega, by omega, by rw [rk]; exact k.n0, by rw [rk]; omega, fun i hi => ?_, fun i j hi hj e => ?_, by omega, by omega, fun u => ?_, ?_⟩
  · have := r.f i hi
    omega
  · have a1 := r.f i hi
    have a2 := r.f j hj
    have e' : (c.pf n).f i = (c.pf n).f j := by omega
    rcases Nat.lt_trichotomy i j with q | q | q
    · have := rise_mono k.ri q hj
      omega
    · exact q
    · have := rise_mono k.ri q hi
      omega
  · by_cases u2 : u = 2
    · subst u2; omega
    · by_cases u3 : u = 3
      · subst u3; omega
      · by_cases u4 : u = 4
        · subst u4; omega
        · by_cases u5 : u = 5
          · subst u5; omega
          · by_cases u6 : u = 6
            · subst u6; omega
            · simp [par, u2, u3, u4, u5, u6]
  · have : ((2 ^ (par c n).o + (par c n).q 2 + (par c n).q 3 + (par c n).q 4 + (par c n).q 5 + (par c n).q 6 : Nat) : Int) ≤ (((par c n).k * (par c n).N : Nat) : Int) := by
      rw [e3]
      have := hfit.2
      omega
    exact Int.ofNat_le.1 this
end Go.Proofs.YtkbpnkjjmipjfaaGreat.P
namespace Go.Proofs.YtkbpnkjjmipjfaaGreat.P
open Go.ChangeShapes Go.WideShapes Go.ChangeAt Go.RowKit
set_option linter.unusedVariables false
set_option maxRecDepth 8192

theorem Clone_arg {w : World} {q : Option Addr} {n m : Nat} {f : Nat → Int} (h : Arg w q n f) (h0 : 0 < n) (hn : n ≤ 16) :
    Calls Tryz.prog 44 #[.slice q n m] w fun e w' => ∃ g cap, e = .returned (.slice (some ⟨g, 0, none⟩) n cap) ∧ Is w' w.heap.size (.slice (some ⟨g, 0, none⟩) n cap) ((List.range n).map f) ∧ Below w.heap.size w w' := by
  rcases h with h | ⟨b, off, rfl, hb, hc⟩
  · omega
  have C := Any.slices_Clone_int B.cloA b off n m ((List.range n).map f) w (by simp) (by omega) (fun j hj => by
    have hj' : j < n := by simpa using hj
    rw [hc j hj']
    simp [List.getD_eq_getElem?_getD, hj'])
  rw [show B.cloA_ren.f 15 = 44 from rfl, show B.cloA_ren.t 3 = 3 from rfl, List.take_of_length_le (by simp)] at C
  refine C.mono ?_
  rintro e w' ⟨v', rfl, ho, hn', hb'⟩
  have hI : Is w' w.heap.size v' ((List.range n).map f) := by
    unfold Is
    rw [show ((List.range n).map f).length = n by simp]
    exact ho
  rcases hI.own.shape with ⟨e, _⟩ | ⟨g, cap, L, e, _⟩
  · exact absurd e hn'
  · rw [show ((List.range n).map f).length = n by simp] at e
    subst e
    exact ⟨g, cap, rfl, hI, hb'⟩
set_option maxHeartbeats 1000000 in
theorem quotas_any {w : World} (q : Option Addr) (m : Nat) (x : Pa) : Calls Tryz.prog 45 #[.agg #[.slice q x.n m, .int .i64 x.o, .int .i64 x.u, .int .i64 x.t, .int .i64 x.s, .int .i64 x.r, .int .i64 x.d, .int .i64 x.z]] w fun e w' => e = .returned (.agg #[.int .i64 0, .int .i64 0, .int .i64 x.u, .int .i64 x.t, .int .i64 x.s, .int .i64 x.r, .int .i64 x.d]) ∧ Below w.heap.size w w' := by
  have hb := ebx_new w q m x
  go_enter Tryz.func45, Tryz.ntmps45
  go_wp2
  refine bodyPost_ret (v := .agg #[.int .i64 0, .int .i64 0, .int .i64 x.u, .int .i64 x.t, .int .i64 x.s, .int .i64 x.r, .int .i64 x.d]) (by simp [results, Tryz.results45, go_sem]) rfl ⟨rfl, ?_⟩
  exact (below_new _ _).alloc (below_new w _).size _
theorem pp_new {w : World} {P : Par} {ga b cap : Nat} {vC vo v2 v3 v4 v5 v6 : Int} (hC : vC = P.C) (ho : vo = P.o) (q0 : P.q 0 = 0) (q1 : P.q 1 = 0) (h2 : v2 = P.q 2) (h3 : v3 = P.q 3) (h4 : v4 = P.q 4) (h5 : v5 = P.q 5) (h6 : v6 = P.q 6)
    (hO : B.Own w (.slice (some ⟨ga, 0, none⟩) P.k cap) (cols P)) (hM : Mu w b 4096 (fun _ => none)) (hne : ga ≠ b) (G : Nat → Nat → Prop) (bp : Nat → Nat) (L : Nat → Nat → List Nat) (tk : Nat → Nat → Option Nat) :
    Pp (w.alloc (.cells #[.int .i64 vC, .slice (some ⟨ga, 0, none⟩) P.k cap, .pointer none, .pointer none, .pointer none, .pointer none, .pointer none, .pointer none, .pointer none, .pointer none, .pointer none, .pointer none, .pointer none, .pointer none, .pointer none, .pointer none, .pointer none, .pointer none, .int .i64 vo, .int .i64 0, .int .i64 0, .int .i64 v2, .int .i64 v3, .int .i64 v4, .int .i64 v5, .int .i64 v6, .map (some b), .int .i64 0, .int .i64 0, .int .i64 0, .int .i64 0, .int .i64 0, .int .i64 0, .int .i64 0] 116)) 0 w.heap.size ga b cap G bp P L tk (fun _ => none) (fun _ => 0) := by
  subst hC ho h2 h3 h4 h5 h6
  have hb := B.blk_new w [.int .i64 P.C, .slice (some ⟨ga, 0, none⟩) P.k cap, .pointer none, .pointer none, .pointer none, .pointer none, .pointer none, .pointer none, .pointer none, .pointer none, .pointer none, .pointer none, .pointer none, .pointer none, .pointer none, .pointer none, .pointer none, .pointer none, .int .i64 P.o, .int .i64 0, .int .i64 0, .int .i64 (P.q 2), .int .i64 (P.q 3), .int .i64 (P.q 4), .int .i64 (P.q 5), .int .i64 (P.q 6), .map (some b), .int .i64 0, .int .i64 0, .int .i64 0, .int .i64 0, .int .i64 0, .int .i64 0, .int .i64 0] 116
  have hga := hO.lt ga rfl
  have hbl := hM.lt
  refine ⟨Nat.zero_le _, by simp, fun i => hb.frozen i, hb.cell 0, hb.cell 1, fun i hi => ⟨none, ?_⟩, fun i hi => by omega, hb.cell 18, fun u hu => ?_, hb.cell 26, fun u hu => ?_, hO.of_eq (fun g hg => by cases hg; rw [Below.heap_alloc _ _ _ hga]), hM.of_eq (by rw [Below.heap_alloc _ _ _ hbl]) (by simp), fun i hi => by omega, by omega, by omega, hne, fun i hi => by omega, fun i j x hi => by omega⟩
  · rw [hb.cell (2 + i)]
    rcases (show i = 0 ∨ i = 1 ∨ i = 2 ∨ i = 3 ∨ i = 4 ∨ i = 5 ∨ i = 6 ∨ i = 7 ∨ i = 8 ∨ i = 9 ∨ i = 10 ∨ i = 11 ∨ i = 12 ∨ i = 13 ∨ i = 14 ∨ i = 15 by omega) with rfl | rfl | rfl | rfl | rfl | rfl | rfl | rfl | rfl | rfl | rfl | rfl | rfl | rfl | rfl | rfl <;> rfl
  · rw [hb.cell (19 + u)]
    rcases (show u = 0 ∨ u = 1 ∨ u = 2 ∨ u = 3 ∨ u = 4 ∨ u = 5 ∨ u = 6 by omega) with rfl | rfl | rfl | rfl | rfl | rfl | rfl
    · rw [q0]; rfl
    · rw [q1]; rfl
    all_goals rfl
  · rw [hb.cell (27 + u)]
    rcases (show u = 0 ∨ u = 1 ∨ u = 2 ∨ u = 3 ∨ u = 4 ∨ u = 5 ∨ u = 6 by omega) with rfl | rfl | rfl | rfl | rfl | rfl | rfl <;> rfl
end Go.Proofs.YtkbpnkjjmipjfaaGreat.P
namespace Go.Proofs.YtkbpnkjjmipjfaaGreat.P
open Go.ChangeShapes Go.WideShapes Go.ChangeAt Go.RowKit
set_option linter.unusedVariables false
set_option maxRecDepth 8192

structure Pr (P : Par) (w W : World) (o : Option (Nat × Nat)) (mp : Option Nat) : Prop where
  be : Below w.heap.size w W
  ow : ∀ x, o = some x → Is W w.heap.size (.slice (some ⟨x.1, 0, none⟩) P.k x.2) (cols P)
  mu : ∀ b, mp = some b → Mu W b 4096 (fun _ => none) ∧ w.heap.size ≤ b
  ne : ∀ x b, o = some x → mp = some b → x.1 ≠ b
theorem pr_new (P : Par) (w : World) : Pr P w w none none := ⟨Below.refl _ _, by simp, by simp, by simp⟩
theorem Pr.below {P : Par} {w W W' : World} {o : Option (Nat × Nat)} {mp : Option Nat} (h : Pr P w W o mp) (k : Below W.heap.size W W') : Pr P w W' o mp :=
  ⟨h.be.trans (k.mono h.be.size), fun x hx => (h.ow x hx).below k, fun b hb => ⟨(h.mu b hb).1.of_eq (k.block b (h.mu b hb).1.lt) k.size, (h.mu b hb).2⟩, h.ne⟩
theorem Pr.drew {P : Par} {w W : World} {o : Option (Nat × Nat)} {mp : Option Nat} (h : Pr P w W o mp) : Pr P w W.drew o mp := h.below (below_drew _ _)
theorem Pr.map {P : Par} {w W : World} {o : Option (Nat × Nat)} (h : Pr P w W o none) : Pr P w (W.alloc (.map #[] 0)) o (some W.heap.size) := by
  have h1 := h.below (below_new W (.map #[] 0))
  refine ⟨h1.be, h1.ow, fun b hb => ?_, fun x b hx hb => ?_⟩
  · cases hb
    exact ⟨mu_new W 4096, h.be.size⟩
  · cases hb
    have := ((h.ow x hx).lt x.1 rfl).2
    omega
theorem Pr.clone {P : Par} {w W W' : World} {mp : Option Nat} {ga cap : Nat} (h : Pr P w W none mp) (hI : Is W' W.heap.size (.slice (some ⟨ga, 0, none⟩) P.k cap) (cols P)) (k : Below W.heap.size W W') : Pr P w W' (some (ga, cap)) mp := by
  have h1 := h.below k
  refine ⟨h1.be, fun x hx => ?_, h1.mu, fun x b hx hb => ?_⟩
  · cases hx
    exact hI.less h.be.size
  · cases hx
    have h2 := (hI.lt ga rfl).1
    have h3 := (h.mu b hb).1.lt
    show ga ≠ b
    omega
structure Nw (P : Par) (a : Ad) (c : Cf) (w W : World) (m p ga b cap : Nat) (G : Nat → Nat → Prop) (bp : Nat → Nat) (L : Nat → Nat → List Nat) (tk : Nat → Nat → Option Nat) (cn : Nat → Nat) : Prop where
  cb : Cb w W w.heap.size a c
  pp : Pp W m p ga b cap G bp P L tk (fun _ => none) cn
  fo : ∀ x, foot m p ga b G x → w.heap.size < x
theorem Nw.below {P : Par} {a : Ad} {c : Cf} {w W W' : World} {m p ga b cap : Nat} {G : Nat → Nat → Prop} {bp : Nat → Nat} {L : Nat → Nat → List Nat} {tk : Nat → Nat → Option Nat} {cn : Nat → Nat} (h : Nw P a c w W m p ga b cap G bp L tk cn) (k : Below W.heap.size W W') : Nw P a c w W' m p ga b cap G bp L tk cn := ⟨h.cb.below k, h.pp.below k, h.fo⟩
theorem Sev.keep {w w' : World} {g : Nat} {a : Ad} {c : Cf} (h : Sev w g a c) (hs : w.heap.size ≤ w'.heap.size) (e : w'.heap[g]? = w.heap[g]?) : Sev w' g a c := by
  have k := fun i => World.cell?_of_block (w := w) (w' := w') (a := ⟨g, i, none⟩) e
  exact ⟨Nat.lt_of_lt_of_le h.lt hs, (k _).trans h.c0, (k _).trans h.c1, (k _).trans h.c2, (k _).trans h.c3, (k _).trans h.c4, (k _).trans h.c5, (k _).trans h.c6, (k _).trans h.c7, (k _).trans h.c8, (k _).trans h.c9, (k _).trans h.c10, (k _).trans h.c11, (k _).trans h.c12, (k _).trans h.c13, (k _).trans h.c14, (k _).trans h.c15, (k _).trans h.c16⟩
theorem Cb.keep {w0 w w' : World} {a : Ad} {c : Cf} (hc : Cin w0 a c) (h : Cb w0 w w0.heap.size a c) {row : Option Nat} (k : w.grownBy w' row) (hr : ∀ x, row = some x → w0.heap.size < x) : Cb w0 w' w0.heap.size a c := by
  have hb : Below w0.heap.size w0 w' := h.be.grown k h.be.size (fun x hx => Nat.le_of_lt (hr x hx))
  exact ⟨hb, Sev.keep h.bx k.size (k.block _ h.bx.lt (fun e => by have := hr _ e.symm; omega)), hc.below hb⟩
theorem frames_count {c : Cf} (h : c.MOk) {x : Int} (h0 : 0 ≤ x) (h1 : x < c.C) : K.ct c.F c.C x = c.F / c.C := by
  have h2 := h.FC
  unfold K.ct
  rcases h.C with e | e | e | e | e <;> rw [e] at h1 h2 ⊢ <;> omega
theorem map_cols {c : Cf} {n : Nat} (r : Prn c n) : (List.range (c.pf n).n).map (c.pf n).f = cols (par c n) := by
  unfold cols
  refine List.map_congr_left (fun i hi => ?_)
  exact ((r.f i (List.mem_range.1 hi)).1).symm
set_option maxHeartbeats 4000000 in
theorem New_p {w : World} {a : Ad} {c : Cf} (hc : Cin w a c) (n : Nat) (hm : may c = true) (hn : n < c.pn) : Calls Tryz.prog 10 #[.agg #[.int .i64 c.F, .int .i64 c.C, .int .i64 c.W, .int .i64 c.S, .int .i64 c.V, .int .i64 c.T, .int .u64 c.k.l1, .int .u64 c.k.llc, .int .u64 c.k.mi, .int .u64 c.k.fa, .int .u64 c.k.st, .int .u64 c.k.di, .int .u64 c.sl, .int .u64 c.pd, .int .u64 c.ft, .slice a.ta c.tn a.tc, .slice a.pa c.pn a.pc], .int .i64 n] w fun e w' => ∃ p F, e = .returned (.tuple #[.pointer (some ⟨p, 0, none⟩), .int .i64 0]) ∧ Po w' F p (par c n) (fun _ => none) ∧ B.Kp (fun _ => False) F w w' := by
  have HB0 := cb_new hc
  have hO := may_iff.1 hm
  have hP := par_ok hO hn
  have r := prn_of hO hn
  have k := hO.part hn
  have hpl := hc.pl
  have C1 : Hid (∀ w', Cin w' a c → Calls Tryz.prog 43 #[.agg #[.int .i64 c.F, .int .i64 c.C, .int .i64 c.W, .int .i64 c.S, .int .i64 c.V, .int .i64 c.T, .int .u64 c.k.l1, .int .u64 c.k.llc, .int .u64 c.k.mi, .int .u64 c.k.fa, .int .u64 c.k.st, .int .u64 c.k.di, .int .u64 c.sl, .int .u64 c.pd, .int .u64 c.ft, .slice a.ta c.tn a.tc, .slice a.pa c.pn a.pc], .int .i64 n] w' (Ti ((c.pf n).n * (c.F / c.C)) 0 w')) := fun w' h => Total_ok h n hm hn
  have hld := HB0.bx.ld
  have hp1 : (n : Int) < (c.pn : Int) := by omega
  have hp0 : (0 : Int) ≤ (n : Int) := by omega
  have HCin : Hid (Cin w a c) := hc
  have HO : Hid c.Ok := hO
  have HP : Hid (par c n).Ok := hP
  have HR : Hid (Prn c n) := r
  have HK : Hid (POk c n) := k
  clear hc hm hO hP r k
  go_enter Tryz.func10, Tryz.ntmps10
  go_upto_region 1 with fail
  obtain ⟨W, hW, HB⟩ : ∃ W, (w.alloc (.cells #[.int .i64 c.F, .int .i64 c.C, .int .i64 c.W, .int .i64 c.S, .int .i64 c.V, .int .i64 c.T, .int .u64 c.k.l1, .int .u64 c.k.llc, .int .u64 c.k.mi, .int .u64 c.k.fa, .int .u64 c.k.st, .int .u64 c.k.di, .int .u64 c.sl, .int .u64 c.pd, .int .u64 c.ft, .slice a.ta c.tn a.tc, .slice a.pa c.pn a.pc] 28)) = W ∧ Hid (Cb w W w.heap.size a c) := ⟨_, rfl, HB0⟩
  rw [hW] at hld
  rw [hW]
  clear hW HB0
  go_wp2_with (refine wpList_load_at rfl 28 (.tmp 2) rfl _ _ rfl hld ?_)
  refine (C1.out _ HB.out.ci).mono ?_
  rintro _ w1 ⟨rfl, k1⟩
  have H1 : Hid (Cb w w1 w.heap.size a c) := HB.out.below k1
  clear HB k1 hld C1
  obtain ⟨b, off, hq, ⟨_, e0, e1, e2, e3, e4, e5, e6, e7⟩⟩ := H1.out.ci.p.at' hn
  have c16 := H1.out.bx.c16
  rw [hq] at c16
  obtain ⟨x, hx⟩ : ∃ x, c.pf n = x := ⟨_, rfl⟩
  have HX : Hid (c.pf n = x) := hx
  rw [hx] at e0 e1 e2 e3 e4 e5 e6 e7
  obtain ⟨q, hqe⟩ : ∃ q, a.ca n = q := ⟨_, rfl⟩
  have HQ : Hid (a.ca n = q) := hqe
  rw [hqe] at e0
  generalize hcc : a.cc n = m at *
  rw [hx]
  clear hx hqe hcc
  obtain ⟨T, hT⟩ : ∃ T, (x.n : Int) * (c.F / c.C) = T := ⟨_, rfl⟩
  have HT : Hid ((x.n : Int) * (c.F / c.C) = T) := hT
  rw [hT]
  clear hT
  have H2 : Hid (Cb w (w1.alloc (.cells #[.slice q x.n m, .int .i64 x.o, .int .i64 x.u, .int .i64 x.t, .int .i64 x.s, .int .i64 x.r, .int .i64 x.d, .int .i64 x.z] 109)) w.heap.size a c) := H1.out.alloc _
  have X2 : Hid (Ebx (w1.alloc (.cells #[.slice q x.n m, .int .i64 x.o, .int .i64 x.u, .int .i64 x.t, .int .i64 x.s, .int .i64 x.r, .int .i64 x.d, .int .i64 x.z] 109)) w1.heap.size q m x) := ebx_new _ _ _ _
  have HL2 : Hid (w.heap.size < (w1.alloc (.cells #[.slice q x.n m, .int .i64 x.o, .int .i64 x.u, .int .i64 x.t, .int .i64 x.s, .int .i64 x.r, .int .i64 x.d, .int .i64 x.z] 109)).heap.size) := H2.out.bx.lt
  go_upto_region 5 with fail
  clear e0 e1 e2 e3 e4 e5 e6 e7 c16 H1
  generalize hw2 : w1.alloc (.cells #[.slice q x.n m, .int .i64 x.o, .int .i64 x.u, .int .i64 x.t, .int .i64 x.s, .int .i64 x.r, .int .i64 x.d, .int .i64 x.z] 109) = w2 at *
  clear hw2
  obtain ⟨pb, hpb⟩ : ∃ pb, w1.heap.size = pb := ⟨_, rfl⟩
  rw [hpb] at X2
  rw [hpb]
  clear hpb
  have PR0 : Hid (Pr (par c n) w2 w2 none none) := pr_new _ _
  have CC : Hid (∀ W mp, Pr (par c n) w2 W none mp → Calls Tryz.prog 44 #[.slice q x.n m] W fun e w' => ∃ ga cap, e = .returned (.slice (some ⟨ga, 0, none⟩) x.n cap) ∧ Pr (par c n) w2 w' (some (ga, cap)) mp) := fun W mp hW => by
    have hA := (H2.out.below hW.be).ci.p.col hn
    rw [HX.out, HQ.out] at hA
    have hn0 := HK.out.n0
    have hn1 := HP.out.k2
    have hk : (par c n).k = x.n := by show (c.pf n).n = x.n; rw [HX.out]
    rw [HX.out] at hn0
    refine (Clone_arg hA hn0 (by omega)).mono ?_
    rintro e w' ⟨ga, cap, rfl, hI, hb⟩
    refine ⟨ga, cap, rfl, hW.clone ?_ hb⟩
    rw [hk, ← map_cols HR.out, HX.out]
    exact hI
  have CQ : Hid (∀ W o mp, Pr (par c n) w2 W o mp → Calls Tryz.prog 45 #[.agg #[.slice q x.n m, .int .i64 x.o, .int .i64 x.u, .int .i64 x.t, .int .i64 x.s, .int .i64 x.r, .int .i64 x.d, .int .i64 x.z]] W fun e w' => e = .returned (.agg #[.int .i64 0, .int .i64 0, .int .i64 x.u, .int .i64 x.t, .int .i64 x.s, .int .i64 x.r, .int .i64 x.d]) ∧ Pr (par c n) w2 w' o mp) := fun W o mp hW =>
    (quotas_any q m x).mono (by rintro e w' ⟨rfl, hb⟩; exact ⟨rfl, hW.below hb⟩)
  have HS : Hid (∀ W, Below w2.heap.size w2 W → (W.cell? ⟨w.heap.size, 1, none⟩ = some (.int .i64 c.C)) ∧ (W.cell? ⟨pb, 0, none⟩ = some (.slice q x.n m) ∧ W.cell? ⟨pb, 1, none⟩ = some (.int .i64 x.o) ∧ W.cell? ⟨pb, 2, none⟩ = some (.int .i64 x.u) ∧ W.cell? ⟨pb, 3, none⟩ = some (.int .i64 x.t) ∧ W.cell? ⟨pb, 4, none⟩ = some (.int .i64 x.s) ∧ W.cell? ⟨pb, 5, none⟩ = some (.int .i64 x.r) ∧ W.cell? ⟨pb, 6, none⟩ = some (.int .i64 x.d) ∧ W.cell? ⟨pb, 7, none⟩ = some (.int .i64 x.z))) := fun W hW => by
    obtain ⟨_, e0, e1, e2, e3, e4, e5, e6, e7⟩ := X2.out.below hW
    exact ⟨(H2.out.below hW).bx.c1, e0, e1, e2, e3, e4, e5, e6, e7⟩
  have HN : Hid (∀ W ga cap bm, Pr (par c n) w2 W (some (ga, cap)) (some bm) → Nw (par c n) a c w (W.alloc (.cells #[.int .i64 c.C, .slice (some ⟨ga, 0, none⟩) x.n cap, .pointer none, .pointer none, .pointer none, .pointer none, .pointer none, .pointer none, .pointer none, .pointer none, .pointer none, .pointer none, .pointer none, .pointer none, .pointer none, .pointer none, .pointer none, .pointer none, .int .i64 x.o, .int .i64 0, .int .i64 0, .int .i64 x.u, .int .i64 x.t, .int .i64 x.s, .int .i64 x.r, .int .i64 x.d, .map (some bm), .int .i64 0, .int .i64 0, .int .i64 0, .int .i64 0, .int .i64 0, .int .i64 0, .int .i64 0] 116)) 0 W.heap.size ga bm cap (fun _ _ => False) (fun _ => 0) (fun _ _ => []) (fun _ _ => none) (fun _ => 0)) := fun W ga cap bm hW => by
    have r := HR.out
    have hk : x.n = (par c n).k := by show x.n = (c.pf n).n; rw [HX.out]
    have hO := hW.ow _ rfl
    have hM := hW.mu _ rfl
    have hlt := (hO.lt ga rfl).1
    have hsz := hW.be.size
    refine ⟨(H2.out.below hW.be).alloc _, ?_, ?_⟩
    · rw [hk]
      exact pp_new r.C.symm (by rw [← HX.out]; exact r.o.symm) rfl rfl (by rw [← HX.out]; exact r.q2.symm) (by rw [← HX.out]; exact r.q3.symm) (by rw [← HX.out]; exact r.q4.symm) (by rw [← HX.out]; exact r.q5.symm) (by rw [← HX.out]; exact r.q6.symm) hO.own hM.1 (hW.ne _ _ rfl rfl) _ _ _ _
    · rintro y (rfl | rfl | rfl | ⟨i, hi, _⟩)
      · have := HL2.out; omega
      · have := HL2.out; omega
      · have := HL2.out; have := hM.2; omega
      · omega
  go_cut [9] from 28 (fun t9 wx => ∃ p ga cap bm, t9 = .pointer (some ⟨p, 0, none⟩) ∧ Nw (par c n) a c w wx 0 p ga bm cap (fun _ _ => False) (fun _ => 0) (fun _ _ => []) (fun _ _ => none) (fun _ => 0))
  case first =>
    have hmm := @run_makeMap Tryz.prog
    go_region_held3 (fun W => (W.cell? ⟨w.heap.size, 1, none⟩ = some (.int .i64 c.C)) ∧ (W.cell? ⟨pb, 0, none⟩ = some (.slice q x.n m) ∧ W.cell? ⟨pb, 1, none⟩ = some (.int .i64 x.o) ∧ W.cell? ⟨pb, 2, none⟩ = some (.int .i64 x.u) ∧ W.cell? ⟨pb, 3, none⟩ = some (.int .i64 x.t) ∧ W.cell? ⟨pb, 4, none⟩ = some (.int .i64 x.s) ∧ W.cell? ⟨pb, 5, none⟩ = some (.int .i64 x.r) ∧ W.cell? ⟨pb, 6, none⟩ = some (.int .i64 x.d) ∧ W.cell? ⟨pb, 7, none⟩ = some (.int .i64 x.z)))
      (first | exact HS.out _ (PR6.out.below (below_new _ _)).be | exact HS.out _ (PR6.out.map.below (below_new _ _)).be | exact HS.out _ PR6.out.be | exact HS.out _ PR6.out.map.be | exact HS.out _ PR5.out.be | exact HS.out _ PR5.out.map.be | exact HS.out _ PR0.out.drew.be | exact HS.out _ PR0.out.drew.map.be)
      (first
        | (go_at_call 44; refine (CC.out _ _ (by first | exact PR0.out.drew | exact PR0.out.drew.map)).mono ?_; rintro e w5 ⟨ga, cap, rfl, hR5⟩; have PR5 : Hid (Pr _ _ _ _ _) := hR5; clear hR5)
        | (go_at_call 45; refine (CQ.out _ _ _ (by first | exact PR5.out | exact PR5.out.map)).mono ?_; rintro e w6 ⟨rfl, hR6⟩; have PR6 : Hid (Pr _ _ _ _ _) := hR6; clear hR6))
    all_goals
      go_wp2_with fail
      go_meet
      case rel => first | exact ⟨_, _, _, _, rfl, HN.out _ _ _ _ PR6.out⟩ | exact ⟨_, _, _, _, rfl, by have := HN.out _ _ _ _ PR6.out.map; rw [show (w6.alloc (.map #[] 0)).heap.size = w6.heap.size + 1 by simp] at this; exact this⟩
  case rest =>
    clear HS HN CC CQ PR0 H2 X2
    obtain ⟨p, ga, cap, bm, rfl, hN⟩ := hcut
    have N0 : Hid (Nw (par c n) a c w wc 0 p ga bm cap (fun _ _ => False) (fun _ => 0) (fun _ _ => []) (fun _ _ => none) (fun _ => 0)) := hN
    have c27 := hN.pp.cc 0 (by omega)
    have z27 := hN.pp.fz 27
    have HT2 : Hid (T = (((par c n).k * (par c n).N : Nat) : Int)) := by
      show T = (((par c n).k * (par c n).N : Nat) : Int)
      rw [Int.natCast_mul, HR.out.N, ← HT.out, ← HX.out]
      rfl
    rw [HT2.out]
    generalize hTN : (par c n).k * (par c n).N = TN at *
    clear hN
    have N1 : Hid (Nw (par c n) a c w (wc.setCell ⟨p, 27, none⟩ (.int .i64 (TN : Nat))) 0 p ga bm cap (fun _ _ => False) (fun _ => 0) (fun _ _ => []) (fun _ _ => none) (B.put (fun _ => 0) 0 TN)) :=
      ⟨Cb.keep HCin.out N0.out.cb (B.grown_setCell' _ _ _ _) (by rintro y e; injection e with e; subst e; exact N0.out.fo _ (Or.inl rfl)), N0.out.pp.count 0 (by omega) TN (fun i hi => by omega), N0.out.fo⟩
    go_upto_region 7 with fail
    clear c27 z27 N0
    generalize wc.setCell ⟨p, 27, none⟩ (.int .i64 (TN : Nat)) = w3 at *
    have c1 := N1.out.pp.c1
    have hk2 := HP.out.k2
    obtain ⟨P, hPP⟩ : ∃ P, par c n = P := ⟨_, rfl⟩
    have HPP : Hid (par c n = P) := hPP
    rw [hPP] at N1 HP c1 hk2
    clear hPP
    go_wp2
    go_loopw [50] (fun z wr => ∃ j : Nat, j ≤ P.k ∧ z = .int .i64 j ∧ ∃ G bp L tk, Nw P a c w wr j p ga bm cap G bp L tk (B.put (fun _ => 0) 0 TN) ∧ ∀ i, i < j → L i = B.nwL P.N ∧ tk i = fun _ => none) (fun z _ => P.k - (B.iv z).toNat)
    case atStart => exact ⟨0, by omega, rfl, _, _, _, _, N1.out, fun i hi => by omega⟩
    case round =>
      obtain ⟨j, hj, rfl, G, bp, L, tk, hN, hL⟩ := hrel
      have N2 : Hid (Nw P a c w wr j p ga bm cap G bp L tk (B.put (fun _ => 0) 0 TN)) := hN
      have HL : Hid (∀ i, i < j → L i = B.nwL P.N ∧ tk i = fun _ => none) := hL
      clear hN hL N1
      by_cases hlt : j < P.k
      · have hcol := N2.out.pp.col hlt
        have b0 := N2.out.cb.bx.c0
        have b1 := N2.out.cb.bx.c1
        have hf16 : P.f j < 16 := Nat.lt_of_lt_of_le (HP.out.fC j hlt) HP.out.C2
        have CCt : Hid (Calls Tryz.prog 46 #[.int .i64 c.F, .int .i64 c.C, .int .i64 (P.f j)] wr (K.Two (P.N : Nat) 0 wr)) := by
          have hm := HO.out.m
          have r := HR.out
          rw [← HPP.out] at hlt ⊢
          have hfj := r.f j hlt
          have hC : 1 ≤ c.C ∧ c.C ≤ 16 := by rcases hm.C with e | e | e | e | e <;> omega
          have := K.Count_ok c.F c.C ((par c n).f j) hm.F1 hm.F2 hC.1 hC.2 (by omega) (by omega) wr
          rw [frames_count hm (by omega) (by omega), ← r.N] at this
          exact this
        have CN : Hid (∀ W, Below wr.heap.size wr W → Calls Tryz.prog 47 #[.int .i64 (P.N : Nat)] W fun e w' => ∃ G' q, e = .returned (.tuple #[.pointer (some ⟨q, 0, none⟩), .int .i64 0]) ∧ B.Bu w' G' q (B.nwL P.N) (fun _ => none) ∧ B.Kp (fun _ => False) G' W w') := fun W hW => B.New_ok P.N HP.out.N2 W
        obtain ⟨v0, hv0⟩ := N2.out.pp.cx (P.f j) hf16
        have z0 := N2.out.pp.fz (2 + P.f j)
        have HN2 : Hid (∀ W W1 G' q, Below wr.heap.size wr W → B.Kp (fun _ => False) G' W W1 → B.Bu W1 G' q (B.nwL P.N) (fun _ => none) → W1.cell? ⟨p, 2 + P.f j, none⟩ = some (.pointer v0) ∧ W1.frozen? ⟨p, 2 + P.f j, none⟩ = false ∧ ∃ G bp L tk, Nw P a c w (W1.setCell ⟨p, 2 + P.f j, none⟩ (.pointer (some ⟨q, 0, none⟩))) (j + 1) p ga bm cap G bp L tk (B.put (fun _ => 0) 0 TN) ∧ ∀ i, i < j + 1 → L i = B.nwL P.N ∧ tk i = fun _ => none) := fun W W1 G' q hW hK hB => by
          have hq := N2.out.below hW
          have e : W1.heap[p]? = W.heap[p]? := hK.block p hq.pp.lt (fun z => z)
          have hKg : W.grownBy W1 none := ⟨hK.os, hK.tape, hK.output, hK.size, fun i hi _ => hK.block i hi (fun z => z)⟩
          have hps := N2.out.fo p (Or.inl rfl)
          refine ⟨?_, ?_, _, _, _, _, ⟨?_, hq.pp.stored hlt (fun i hi => Nat.lt_of_lt_of_le (HP.out.fC i hi) HP.out.C2) (fun i hi z => ?_) hK hB, ?_⟩, fun i hi => ?_⟩
          · rw [World.cell?_of_block (w := W) (w' := W1) (a := ⟨p, 2 + P.f j, none⟩) e, hW.cell (p := ⟨p, 2 + P.f j, none⟩) N2.out.pp.lt]
            exact hv0
          · rw [World.frozen?_of_block (w := W) (w' := W1) (a := ⟨p, 2 + P.f j, none⟩) e]
            exact hq.pp.fz _
          · exact Cb.keep HCin.out (Cb.keep HCin.out hq.cb hKg (by simp)) (B.grown_setCell' _ _ _ _) (by rintro y e; injection e with e; subst e; exact hps)
          · have := HP.out.inj i j (by omega) hlt z
            omega
          · rintro y (rfl | rfl | rfl | ⟨i, hi, hy⟩)
            · exact hps
            · exact N2.out.fo _ (Or.inr (Or.inl rfl))
            · exact N2.out.fo _ (Or.inr (Or.inr (Or.inl rfl)))
            · by_cases e2 : i = j
              · subst e2
                rw [B.put_same] at hy
                rcases hK.new y hy with z | z
                · exact z.elim
                · have := hW.size
                  have := N2.out.cb.bx.lt
                  omega
              · rw [B.put_other _ _ _ _ e2] at hy
                exact N2.out.fo _ (Or.inr (Or.inr (Or.inr ⟨i, by omega, hy⟩)))
          · by_cases e2 : i = j
            · subst e2
              rw [B.put_same, B.put_same]
              exact ⟨rfl, rfl⟩
            · rw [B.put_other _ _ _ _ e2, B.put_other _ _ _ _ e2]
              exact HL.out i (by omega)
        have hjI : (j : Int) < (P.k : Int) := by omega
        clear N2 HL
        generalize P.f j = f at *
        have i4 : (0 : Int) ≤ (f : Int) := by omega
        have i5 : (f : Int) < 16 := by omega
        go_wp2_with (go_at_call 46; refine CCt.out.mono ?_; rintro e w' ⟨rfl, h⟩; obtain rfl := h.symm)
        go_region_with (first | (go_at_call 47; refine (CN.out _ (by first | exact (Below.refl _ _).drew | exact Below.refl _ _)).mono ?_; rintro e w4 ⟨G', qq, rfl, hB4, hK4⟩; obtain ⟨y1, y2, hF4⟩ := HN2.out _ w4 G' qq (by first | exact (Below.refl _ _).drew | exact Below.refl _ _) hK4 hB4; have HF4 : Hid (_) := hF4; clear hF4))
        clear y1 y2 hB4 hK4 HN2 CN CCt
        generalize w4.setCell ⟨p, 2 + f, none⟩ (.pointer (some ⟨qq, 0, none⟩)) = w5 at *
        go_wp2
        go_roundw
        case rel => exact ⟨j + 1, by omega, by go_num, HF4.out⟩
        case measure => simp [B.iv]; omega
      · obtain rfl : j = P.k := by omega
        have HFin : Hid (∃ F, Po wr F p (par c n) (fun _ => none) ∧ B.Kp (fun _ => False) F w wr) := by
          rw [HPP.out]
          refine ⟨foot P.k p ga bm G, ⟨HP.out, va_new P, ga, bm, cap, G, bp, L, tk, _, N2.out.pp, ⟨fun i hi => ?_, fun i x u _ _ h => ?_, fun u => ?_⟩, fun _ => Iff.rfl⟩, ?_⟩
          · rw [(HL.out i hi).1, (HL.out i hi).2, opn_new]
            exact B.St.new _
          · cases h
          · unfold cN B.put
            by_cases e : u = 0
            · rw [if_pos e, if_pos e, sf_new, ← HPP.out, hTN]
            · rw [if_neg e, if_neg e, cU_none]
          · have hb := N2.out.cb.be
            exact ⟨hb.os, hb.tape, hb.output, hb.size, fun y hy _ => hb.block y hy, fun y hy => Or.inr (Nat.le_of_lt (N2.out.fo y hy))⟩
        go_wp2
        go_ret2
        obtain ⟨F, f1, f2⟩ := HFin.out
        exact ⟨_, F, rfl, f1, f2⟩
end Go.Proofs.YtkbpnkjjmipjfaaGreat.P
