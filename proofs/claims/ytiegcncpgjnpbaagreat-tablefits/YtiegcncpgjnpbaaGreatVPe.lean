/- What New of package pool gives back: the error that the plan tells, or a pool whose frames are all free; no condition but those that each theorem names. -/
import Derived.Test.YtiegcncpgjnpbaaGreatVQb
import Derived.Test.YtiegcncpgjnpbaaGreatVPi
namespace Go.Proofs.YtiegcncpgjnpbaaGreat.P
open Go.ChangeShapes Go.WideShapes Go.ChangeAt Go.RowKit
set_option linter.unusedVariables false
set_option maxRecDepth 8192

def par (c : Cf) (n : Nat) : Par where
  C := c.C.toNat
  N := (c.F / c.C).toNat
  k := (c.pf n).n
  f := fun i => ((c.pf n).f i).toNat
  o := (c.pf n).o.toNat
  q := fun u => if u = 2 then (c.pf n).u.toNat else if u = 3 then (c.pf n).t.toNat else if u = 4 then (c.pf n).s.toNat else if u = 5 then (c.pf n).r.toNat else if u = 6 then (c.pf n).d.toNat else 0
theorem div_frames {c : Cf} (h : c.MOk) : 0 ≤ c.F / c.C ∧ c.F / c.C * c.C = c.F := by
  have h1 := h.F1
  have h2 := h.FC
  rcases h.C with e | e | e | e | e <;> rw [e] at h2 ⊢ <;> omega
structure Prn (c : Cf) (n : Nat) : Prop where
  C : ((par c n).C : Int) = c.C
  N : ((par c n).N : Int) = c.F / c.C
  f : ∀ i, i < (c.pf n).n → ((par c n).f i : Int) = (c.pf n).f i ∧ 0 ≤ (c.pf n).f i ∧ (c.pf n).f i < c.C
  o : ((par c n).o : Int) = (c.pf n).o
  q2 : ((par c n).q 2 : Int) = (c.pf n).u
  q3 : ((par c n).q 3 : Int) = (c.pf n).t
  q4 : ((par c n).q 4 : Int) = (c.pf n).s
  q5 : ((par c n).q 5 : Int) = (c.pf n).r
  q6 : ((par c n).q 6 : Int) = (c.pf n).d
theorem prn_of {c : Cf} (h : c.Ok) {n : Nat} (hn : n < c.pn) : Prn c n := by
  have k := h.part hn
  have h1 := div_frames h.m
  have hC : 1 ≤ c.C := by rcases h.m.C with e | e | e | e | e <;> omega
  have k1 := k.o0
  have k2 := k.u0
  have k3 := k.t0
  have k4 := k.s0
  have k5 := k.r0
  have k6 := k.d0
  refine ⟨by simp only [par]; omega, by simp only [par]; omega, fun i hi => ?_, by simp only [par]; omega, ?_, ?_, ?_, ?_, ?_⟩
  · have := rise_at k.ri hi
    exact ⟨by simp only [par]; omega, this.1, this.2.1⟩
  all_goals simp [par]; omega
theorem im_pow {x : Pa} (h0 : 0 ≤ x.o) (h1 : x.o ≤ 3) : im x = ((2 ^ x.o.toNat : Nat) : Int) := by
  unfold im
  rw [Int.natCast_pow]
  rfl
theorem par_ok {c : Cf} (h : c.Ok) {n : Nat} (hn : n < c.pn) : (par c n).Ok := by
  have k := h.part hn
  have r := prn_of h hn
  have h1 := div_frames h.m
  have hC : c.C = 1 ∨ c.C = 2 ∨ c.C = 4 ∨ c.C = 8 ∨ c.C = 16 := h.m.C
  have hfit := k.fit (mOk_iff.2 h.m)
  unfold fit at hfit
  rw [Bool.and_eq_true, decide_eq_true_eq, decide_eq_true_eq, im_pow k.o0 k.o1] at hfit
  have rC := r.C
  have rN := r.N
  have ro := r.o
  have q2 := r.q2
  have q3 := r.q3
  have q4 := r.q4
  have q5 := r.q5
  have q6 := r.q6
  have ro' : (c.pf n).o.toNat = (par c n).o := rfl
  have rk : (par c n).k = (c.pf n).n := rfl
  have hF2 := h.m.F2
  have k1 := k.o1
  have k2 := k.u1
  have k3 := k.t1
  have k4 := k.s1
  have k5 := k.r1
  have k6 := k.d1
  have hlen := rise_len k.ri k.n0
  rw [ro'] at hfit
  have e2 : ((par c n).N * (par c n).C : Nat) = c.F.toNat := by
    have : (((par c n).N * (par c n).C : Nat) : Int) = c.F := by rw [Int.natCast_mul, rN, rC]; exact h1.2
    omega
  have e3 : (((par c n).k * (par c n).N : Nat) : Int) = (c.pf n).n * (c.F / c.C) := by rw [Int.natCast_mul, rN, rk]
  refine ⟨by omega, by omega, by omega, by rw [rk]; exact k.n0, by rw [rk]; omega, fun i hi => ?_, fun i j hi hj e => ?_, by omega, by omega, fun u => ?_, ?_⟩
  · have := r.f i hi
    omega
  · have a1 := r.f i hi
    have a2 := r.f j hj
    have e' : (c.pf n).f i = (c.pf n).f j := by omega
    rcases Nat.lt_trichotomy i j with q | q | q
    · have := rise_mono k.ri q hj
      omega
    · exact q
    · have := rise_mono k.ri q hi
      omega
  · by_cases u2 : u = 2
    · subst u2; omega
    · by_cases u3 : u = 3
      · subst u3; omega
      · by_cases u4 : u = 4
        · subst u4; omega
        · by_cases u5 : u = 5
          · subst u5; omega
          · by_cases u6 : u = 6
            · subst u6; omega
            · simp [par, u2, u3, u4, u5, u6]
  · have : ((2 ^ (par c n).o + (par c n).q 2 + (par c n).q 3 + (par c n).q 4 + (par c n).q 5 + (par c n).q 6 : Nat) : Int) ≤ (((par c n).k * (par c n).N : Nat) : Int) := by
      rw [e3]
      have := hfit.2
      omega
    exact Int.ofNat_le.1 this
end Go.Proofs.YtiegcncpgjnpbaaGreat.P
namespace Go.Proofs.YtiegcncpgjnpbaaGreat.P
open Go.ChangeShapes Go.WideShapes Go.ChangeAt Go.RowKit
set_option linter.unusedVariables false
set_option maxRecDepth 8192

theorem Clone_arg {w : World} {q : Option Addr} {n m : Nat} {f : Nat → Int} (h : Arg w q n f) (h0 : 0 < n) (hn : n ≤ 16) :
    Calls Tryz.prog 94 #[.slice q n m] w fun e w' => ∃ g cap, e = .returned (.slice (some ⟨g, 0, none⟩) n cap) ∧ Is w' w.heap.size (.slice (some ⟨g, 0, none⟩) n cap) ((List.range n).map f) ∧ Below w.heap.size w w' := by
  rcases h with h | ⟨b, off, rfl, hb, hc⟩
  · omega
  have C := Any.slices_Clone_int B.cloA b off n m ((List.range n).map f) w (by simp) (by omega) (fun j hj => by
    have hj' : j < n := by simpa using hj
    rw [hc j hj']
    simp [List.getD_eq_getElem?_getD, hj'])
  rw [show B.cloA_ren.f 15 = 94 from rfl, show B.cloA_ren.t 3 = 3 from rfl, List.take_of_length_le (by simp)] at C
  refine C.mono ?_
  rintro e w' ⟨v', rfl, ho, hn', hb'⟩
  have hI : Is w' w.heap.size v' ((List.range n).map f) := by
    unfold Is
    rw [show ((List.range n).map f).length = n by simp]
    exact ho
  rcases hI.own.shape with ⟨e, _⟩ | ⟨g, cap, L, e, _⟩
  · exact absurd e hn'
  · rw [show ((List.range n).map f).length = n by simp] at e
    subst e
    exact ⟨g, cap, rfl, hI, hb'⟩
set_option maxHeartbeats 1000000 in
theorem quotas_any {w : World} (q : Option Addr) (m : Nat) (x : Pa) : Calls Tryz.prog 95 #[.agg #[.slice q x.n m, .int .i64 x.o, .int .i64 x.u, .int .i64 x.t, .int .i64 x.s, .int .i64 x.r, .int .i64 x.d, .int .i64 x.z]] w fun e w' => e = .returned (.agg #[.int .i64 0, .int .i64 0, .int .i64 x.u, .int .i64 x.t, .int .i64 x.s, .int .i64 x.r, .int .i64 x.d]) ∧ Below w.heap.size w w' := by
  have hb := ebx_new w q m x
  go_enter Tryz.func95, Tryz.ntmps95
  go_wp2
  refine bodyPost_ret (v := .agg #[.int .i64 0, .int .i64 0, .int .i64 x.u, .int .i64 x.t, .int .i64 x.s, .int .i64 x.r, .int .i64 x.d]) (by simp [results, Tryz.results95, go_sem]) rfl ⟨rfl, ?_⟩
  exact (below_new _ _).alloc (below_new w _).size _
theorem pp_new {w : World} {P : Par} {ga b cap : Nat} {vC vo v2 v3 v4 v5 v6 : Int} (hC : vC = P.C) (ho : vo = P.o) (q0 : P.q 0 = 0) (q1 : P.q 1 = 0) (h2 : v2 = P.q 2) (h3 : v3 = P.q 3) (h4 : v4 = P.q 4) (h5 : v5 = P.q 5) (h6 : v6 = P.q 6)
    (hO : B.Own w (.slice (some ⟨ga, 0, none⟩) P.k cap) (cols P)) (hM : Mu w b 4096 (fun _ => none)) (hne : ga ≠ b) (G : Nat → Nat → Prop) (bp : Nat → Nat) (L : Nat → Nat → List Nat) (tk : Nat → Nat → Option Nat) :
    Pp (w.alloc (.cells #[.int .i64 vC, .slice (some ⟨ga, 0, none⟩) P.k cap, .pointer none, .pointer none, .pointer none, .pointer none, .pointer none, .pointer none, .pointer none, .pointer none, .pointer none, .pointer none, .pointer none, .pointer none, .pointer none, .pointer none, .pointer none, .pointer none, .int .i64 vo, .int .i64 0, .int .i64 0, .int .i64 v2, .int .i64 v3, .int .i64 v4, .int .i64 v5, .int .i64 v6, .map (some b), .int .i64 0, .int .i64 0, .int .i64 0, .int .i64 0, .int .i64 0, .int .i64 0, .int .i64 0] 102)) 0 w.heap.size ga b cap G bp P L tk (fun _ => none) (fun _ => 0) := by
  subst hC ho h2 h3 h4 h5 h6
  have hb := B.blk_new w [.int .i64 P.C, .slice (some ⟨ga, 0, none⟩) P.k cap, .pointer none, .pointer none, .pointer none, .pointer none, .pointer none, .pointer none, .pointer none, .pointer none, .pointer none, .pointer none, .pointer none, .pointer none, .pointer none, .pointer none, .pointer none, .pointer none, .int .i64 P.o, .int .i64 0, .int .i64 0, .int .i64 (P.q 2), .int .i64 (P.q 3), .int .i64 (P.q 4), .int .i64 (P.q 5), .int .i64 (P.q 6), .map (some b), .int .i64 0, .int .i64 0, .int .i64 0, .int .i64 0, .int .i64 0, .int .i64 0, .int .i64 0] 102
  have hga := hO.lt ga rfl
  have hbl := hM.lt
  refine ⟨Nat.zero_le _, by simp, fun i => hb.frozen i, hb.cell 0, hb.cell 1, fun i hi => ⟨none, ?_⟩, fun i hi => by omega, hb.cell 18, fun u hu => ?_, hb.cell 26, fun u hu => ?_, hO.of_eq (fun g hg => by cases hg; rw [Below.heap_alloc _ _ _ hga]), hM.of_eq (by rw [Below.heap_alloc _ _ _ hbl]) (by simp), fun i hi => by omega, by omega, by omega, hne, fun i hi => by omega, fun i j x hi => by omega⟩
  · rw [hb.cell (2 + i)]
    rcases (show i = 0 ∨ i = 1 ∨ i = 2 ∨ i = 3 ∨ i = 4 ∨ i = 5 ∨ i = 6 ∨ i = 7 ∨ i = 8 ∨ i = 9 ∨ i = 10 ∨ i = 11 ∨ i = 12 ∨ i = 13 ∨ i = 14 ∨ i = 15 by omega) with rfl | rfl | rfl | rfl | rfl | rfl | rfl | rfl | rfl | rfl | rfl | rfl | rfl | rfl | rfl | rfl <;> rfl
  · rw [hb.cell (19 + u)]
    rcases (show u = 0 ∨ u = 1 ∨ u = 2 ∨ u = 3 ∨ u = 4 ∨ u = 5 ∨ u = 6 by omega) with rfl | rfl | rfl | rfl | rfl | rfl | rfl
    · rw [q0]; rfl
    · rw [q1]; rfl
    all_goals rfl
  · rw [hb.cell (27 + u)]
    rcases (show u = 0 ∨ u = 1 ∨ u = 2 ∨ u = 3 ∨ u = 4 ∨ u = 5 ∨ u = 6 by omega) with rfl | rfl | rfl | rfl | rfl | rfl | rfl <;> rfl
end Go.Proofs.YtiegcncpgjnpbaaGreat.P
