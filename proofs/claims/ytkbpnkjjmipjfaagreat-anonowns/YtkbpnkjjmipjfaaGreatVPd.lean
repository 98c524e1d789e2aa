/- What Take of package pool gives back and leaves, by the uses of the frames alone; no condition but those that each theorem names. -/
import Derived.Test.YtkbpnkjjmipjfaaGreatVPc
import Derived.Laws.AppendOwnNone
namespace Go.Proofs.YtkbpnkjjmipjfaaGreat.P
open B Go.ChangeShapes Go.WideShapes Go.ChangeAt Go.RowKit
set_option linter.unusedVariables false
set_option maxRecDepth 8192

def cN (P : Par) (us : Us) (u : Nat) : Nat := if u = 0 then sf P us P.k else cU us u 4096
structure Pq (P : Par) (us : Us) (L : Nat → Nat → List Nat) (tk : Nat → Nat → Option Nat) (cn : Nat → Nat) : Prop where
  st : ∀ i, i < P.k → St P.N (opn P us i) (L i) (tk i)
  t0 : ∀ i x u, i < P.k → x < P.N → us (fm P i x) = some u → 2 ≤ u → tk i x = some 0
  cn : ∀ u, cn u = cN P us u
structure Po (w : World) (F : Nat → Prop) (p : Nat) (P : Par) (us : Us) : Prop where
  ok : P.Ok
  va : Va P us
  me : ∃ ga b cap G bp L tk cn, Pp w P.k p ga b cap G bp P L tk us cn ∧ Pq P us L tk cn ∧ ∀ x, F x ↔ foot P.k p ga b G x
theorem Po.of_eq {w w' : World} {F : Nat → Prop} {p : Nat} {P : Par} {us : Us} (h : Po w F p P us) (hs : w.heap.size ≤ w'.heap.size) (e : ∀ x, F x → w'.heap[x]? = w.heap[x]?) : Po w' F p P us := by
  obtain ⟨ga, b, cap, G, bp, L, tk, cn, h1, h2, h3⟩ := h.me
  exact ⟨h.ok, h.va, ga, b, cap, G, bp, L, tk, cn, h1.of_eq hs (fun x hx => e x ((h3 x).2 hx)), h2, h3⟩
theorem Po.lt {w : World} {F : Nat → Prop} {p : Nat} {P : Par} {us : Us} (h : Po w F p P us) : ∀ x, F x → x < w.heap.size := by
  obtain ⟨ga, b, cap, G, bp, L, tk, cn, h1, h2, h3⟩ := h.me
  exact fun x hx => h1.flt x ((h3 x).1 hx)
theorem Po.below {w w' : World} {F : Nat → Prop} {p : Nat} {P : Par} {us : Us} (h : Po w F p P us) (k : Below w.heap.size w w') : Po w' F p P us := h.of_eq k.size (fun x hx => k.block x (h.lt x hx))
theorem Po.kept {w w' : World} {F H H' : Nat → Prop} {p : Nat} {P : Par} {us : Us} (h : Po w F p P us) (k : Kp H H' w w') (hd : ∀ x, F x → ¬ H x) : Po w' F p P us := h.of_eq k.size (fun x hx => k.block x (h.lt x hx) (hd x hx))
theorem cU_le4 (us : Us) (u : Nat) : cU us u 4096 ≤ 4096 := cU_le us u 4096
theorem sf_le (P : Par) (us : Us) : ∀ j, sf P us j ≤ j * P.N
  | 0 => by simp [sf]
  | j + 1 => by
    have := sf_le P us j
    have := fre_le P us j
    rw [sf, Nat.add_mul]
    omega
theorem cN_le {P : Par} (h : P.Ok) (us : Us) (u : Nat) : cN P us u ≤ 65536 := by
  unfold cN
  split
  · have h1 := sf_le P us P.k
    have h2 := Nat.mul_le_mul h.k2 h.N2
    omega
  · have := cU_le4 us u
    omega
theorem bs_congr {v v' : Nat → Nat} : ∀ j, (∀ i, i ≤ j → v i = v' i) → bs v j = bs v' j
  | 0, _ => rfl
  | j + 1, h => by
    have ih := bs_congr j (fun i hi => h i (by omega))
    rw [bs, bs, ih, h (j + 1) (by omega), h (bs v' j) (by have := bs_le v' j; omega)]
theorem Pq.fr {P : Par} {us : Us} {L : Nat → Nat → List Nat} {tk : Nat → Nat → Option Nat} {cn : Nat → Nat} (h : Pq P us L tk cn) {i : Nat} (hi : i < P.k) : fr (L i) = fre P us i := ((h.st i hi).cn).symm
theorem Pq.best {P : Par} {us : Us} {L : Nat → Nat → List Nat} {tk : Nat → Nat → Option Nat} {cn : Nat → Nat} (h : Pq P us L tk cn) (hk : 1 ≤ P.k) : bs (fun i => B.fr (L i)) (P.k - 1) = best P us := bs_congr _ (fun i hi => h.fr (by omega))
theorem cN_take {P : Par} (hP : P.Ok) {us : Us} {i a u : Nat} (hi : i < P.k) (ha : opn P us i a = true) (hu : 1 ≤ u) : 1 ≤ cN P us 0 ∧ ∀ v, put (put (cN P us) u (cN P us u + 1)) 0 (cN P us 0 - 1) v = cN P (pt us (fm P i a) (some u)) v := by
  obtain ⟨hn, hg⟩ := opn_iff.1 ha
  have hlt := fm_lt hP hi hn
  have h1 := sf_one (fre_take hP hi ha u) hi (fun m hm hne => fre_other hP hi hm hne _)
  have h0 : cN P us 0 = sf P us P.k := rfl
  refine ⟨by omega, fun v => ?_⟩
  by_cases e : v = 0
  · subst e
    rw [put_same, h0]
    show sf P us P.k - 1 = sf P _ P.k
    omega
  · rw [put_other _ _ _ _ e]
    have hv : cN P (pt us (fm P i a) (some u)) v = cU (pt us (fm P i a) (some u)) v 4096 := if_neg e
    rw [hv, cU_take hg u v hlt]
    by_cases e2 : v = u
    · subst e2
      rw [put_same, if_pos rfl]
      unfold cN
      rw [if_neg e]
    · rw [put_other _ _ _ _ e2, if_neg e2, Nat.add_zero]
      unfold cN
      rw [if_neg e]
def Tkn (P : Par) (us : Us) (u g : Nat) (us' : Us) : Prop := ∃ a, Nx (opn P us (best P us)) 0 a ∧ g = fm P (best P us) a ∧ us' = pt us g (some u)
theorem Take_arg {w : World} {F : Nat → Prop} {p : Nat} {P : Par} {us : Us} (h : Po w F p P us) (u : Int) (hu : u < 2 ∨ 6 < u) : Calls Tryz.prog 114 #[.pointer (some ⟨p, 0, none⟩), .int .u8 u] w fun e w' => e = .returned (.tuple #[.int .i64 0, .int .i64 2]) ∧ w' = w := by
  obtain ⟨ga, b, cap, G, bp, L, tk, cn, h1, h2, h3⟩ := h.me
  have C1 : Hid (Calls _ _ _ _ _) := made_p h1
  clear h h1 h2 h3
  go_enter Tryz.func114, Tryz.ntmps114
  go_wp2_with (go_at_call 70; refine C1.out.mono ?_; rintro e w' ⟨rfl, h⟩; obtain rfl := h.symm)
  all_goals (go_ret2; exact ⟨rfl, rfl⟩)
theorem Take_mem {w : World} {F : Nat → Prop} {p : Nat} {P : Par} {us : Us} (h : Po w F p P us) (u : Nat) (h2 : 2 ≤ u) (h6 : u ≤ 6) (hq : P.q u ≤ cU us u 4096) : Calls Tryz.prog 114 #[.pointer (some ⟨p, 0, none⟩), .int .u8 u] w fun e w' => e = .returned (.tuple #[.int .i64 0, .int .i64 4]) ∧ Below w.heap.size w w' := by
  obtain ⟨ga, b, cap, G, bp, L, tk, cn, g1, g2, g3⟩ := h.me
  have C1 : Hid (Calls _ _ _ _ _) := made_p g1
  have c1 := g1.cc u (by omega)
  have c2 := g1.cq u (by omega)
  have e1 : cn u = cU us u 4096 := by rw [g2.cn u]; exact if_neg (by omega)
  rw [e1] at c1
  have l1 := cU_le4 us u
  have l2 := h.ok.qm u
  generalize cU us u 4096 = x at *
  generalize P.q u = y at *
  clear h g1 g2 g3 e1
  have i1 : (0 : Int) ≤ (u : Int) := by omega
  have i2 : (u : Int) < 7 := by omega
  have i3 : (y : Int) ≤ (x : Int) := by omega
  go_enter Tryz.func114, Tryz.ntmps114
  go_wp2_with (go_at_call 70; refine C1.out.mono ?_; rintro e w' ⟨rfl, h⟩; obtain rfl := h.symm)
  go_quiet (fail)
  go_wp2
  go_ret2
  exact ⟨rfl, below_of (grown_drewN w _ none) _ (Nat.le_refl _) (by simp)⟩
theorem Pq.take {P : Par} (hP : P.Ok) {us : Us} {L : Nat → Nat → List Nat} {tk : Nat → Nat → Option Nat} {cn : Nat → Nat} (h : Pq P us L tk cn) {i a k u : Nat} {r : List Nat} (hi : i < P.k) (hk : k ≤ 6) (he : ∀ j, 0 ≤ j → j < k → L i j = []) (hL : L i k = a :: r) (hu : 1 ≤ u) :
    Pq P (pt us (fm P i a) (some u)) (put L i (tkL (L i) 0 k a)) (put tk i (pt (tk i) a (some 0))) (put (put cn u (cn u + 1)) 0 (cn 0 - 1)) := by
  obtain ⟨s1, s2, s3, s4, s5, s6⟩ := (h.st i hi).take (Nat.zero_le _) hk he hL
  rw [Nat.pow_zero, Nat.div_one] at s1 s2
  have ha : opn P us i a = true := s2 a (by rw [Nat.pow_zero, Nat.div_one])
  have hc := cN_take hP hi ha hu
  have ec : cn = cN P us := funext h.cn
  refine ⟨fun j hj => ?_, fun j x v hj hx hv h2 => ?_, fun v => ?_⟩
  · by_cases e : j = i
    · subst e
      rw [put_same, put_same, opn_same hP hj u]
      exact s1
    · rw [put_other _ _ _ _ e, put_other _ _ _ _ e, opn_other hP hi hj e]
      exact h.st j hj
  · by_cases e : j = i
    · subst e
      rw [put_same]
      by_cases e2 : x = a
      · subst e2
        simp [pt]
      · have hne : fm P j x ≠ fm P j a := fun q => e2 (fm_inj hP hj hj q).2
        have hv' : us (fm P j x) = some v := by simpa [pt, hne] using hv
        simp only [pt, e2, if_false]
        exact h.t0 j x v hj hx hv' h2
    · rw [put_other _ _ _ _ e]
      have hne : fm P j x ≠ fm P i a := fun q => e (fm_inj hP hj hi q).1
      have hv' : us (fm P j x) = some v := by simpa [pt, hne] using hv
      exact h.t0 j x v hj hx hv' h2
  · rw [ec]
    exact hc.2 v
theorem foot_kp {w w' : World} {m p ga b j : Nat} {G : Nat → Nat → Prop} {G' : Nat → Prop} (hj : j < m) (k : Kp (G j) G' w w') : Kp (foot m p ga b G) (foot m p ga b (put G j G')) w w' := by
  refine ⟨k.os, k.tape, k.output, k.size, fun x hx hn => k.block x hx (fun z => hn (Or.inr (Or.inr (Or.inr ⟨j, hj, z⟩)))), ?_⟩
  rintro x (rfl | rfl | rfl | ⟨i, hi, hx⟩)
  · exact Or.inl (Or.inl rfl)
  · exact Or.inl (Or.inr (Or.inl rfl))
  · exact Or.inl (Or.inr (Or.inr (Or.inl rfl)))
  · by_cases e : i = j
    · subst e
      rw [put_same] at hx
      rcases k.new x hx with z | z
      · exact Or.inl (Or.inr (Or.inr (Or.inr ⟨i, hi, z⟩)))
      · exact Or.inr z
    · rw [put_other _ _ _ _ e] at hx
      exact Or.inl (Or.inr (Or.inr (Or.inr ⟨i, hi, hx⟩)))
theorem Kp.of_foot {F F' A B : Nat → Prop} {w w' : World} (k : Kp A B w w') (h : ∀ x, F x ↔ A x) (h' : ∀ x, F' x ↔ B x) : Kp F F' w w' :=
  ⟨k.os, k.tape, k.output, k.size, fun x hx hn => k.block x hx (fun z => hn ((h x).2 z)), fun x hx => (k.new x ((h' x).1 hx)).imp (h x).2 id⟩
theorem below_kp {F : Nat → Prop} {w w' : World} (h : Below w.heap.size w w') : Kp F F w w' := ⟨h.os, h.tape, h.output, h.size, fun x hx _ => h.block x hx, fun _ h => Or.inl h⟩
set_option maxHeartbeats 1000000 in
theorem Take_p {w : World} {F : Nat → Prop} {p : Nat} {P : Par} {us : Us} (h : Po w F p P us) (u : Nat) (h2 : 2 ≤ u) (h6 : u ≤ 6) (hq : cU us u 4096 < P.q u) :
    Calls Tryz.prog 114 #[.pointer (some ⟨p, 0, none⟩), .int .u8 u] w fun e w' => ∃ g us' F', e = .returned (.tuple #[.int .i64 (g : Nat), .int .i64 0]) ∧ Tkn P us u g us' ∧ Po w' F' p P us' ∧ Kp F F' w w' := by
  obtain ⟨ga, b, cap, G, bp, L, tk, cn, g1, g2, g3⟩ := h.me
  have hP := h.ok
  have hi := best_lt hP us
  obtain ⟨x0, hx0⟩ := h.va.best_open hP h2 h6 hq
  obtain ⟨a0, ha0⟩ := nx_of_open (g2.st _ hi) hx0
  rcases take_case (L (best P us)) 0 with he | ⟨k, a, r, q1, q2, q3, q4⟩
  · exact absurd ha0 (st_no_nx (g2.st _ hi) he a0)
  have hnx := st_nx (g2.st _ hi) q1 q2 q3 q4
  have hao := hnx.open
  have haN := (opn_iff.1 hao).1
  have hN2 := hP.N2
  have hlen := fun i hi => st_len (g2.st i hi) hP.N2
  have hf16 : ∀ i, i < P.k → P.f i < 16 := fun i hi => Nat.lt_of_lt_of_le (hP.fC i hi) hP.C2
  have C1 : Hid (Calls Tryz.prog 70 #[.pointer (some ⟨p, 0, none⟩)] w _) := made_p g1
  have CF : Hid (∀ W, Below w.heap.size w W → Calls Tryz.prog 145 #[.pointer (some ⟨p, 0, none⟩)] W fun e w' => e = .returned (.int .i64 (P.f (best P us) : Nat)) ∧ Below W.heap.size W w') := fun W hW => by
    have := fullest_p (g1.below hW) hP.k1 hP.k2 hf16 hlen
    rw [g2.best hP.k1] at this
    exact this
  have HP1 : Hid (∀ W, Below w.heap.size w W → Pp W P.k p ga b cap G bp P L tk us cn) := fun W hW => g1.below hW
  have HPost : Hid (∀ W G', Pp W P.k p ga b cap (put G (best P us) G') bp P (put L (best P us) (tkL (L (best P us)) 0 k a)) (put tk (best P us) (pt (tk (best P us)) a (some 0))) (pt us (fm P (best P us) a) (some u)) (put (put cn u (cn u + 1)) 0 (cn 0 - 1)) → Kp F (foot P.k p ga b (put G (best P us) G')) w W → ∃ us' F', Tkn P us u (fm P (best P us) a) us' ∧ Po W F' p P us' ∧ Kp F F' w W) := fun W G' hW hK =>
    ⟨_, _, ⟨a, hnx, rfl, rfl⟩, ⟨hP, h.va.take hP hi hao h2 h6 hq, ga, b, cap, _, bp, _, _, _, hW, g2.take hP hi q2 q3 q4 (by omega), fun _ => Iff.rfl⟩, hK⟩
  have CT : Hid (∀ W, Below w.heap.size w W → Calls Tryz.prog 146 #[.pointer (some ⟨bp (best P us), 0, none⟩), .int .i64 0] W fun e w' => e = .returned (.tuple #[.int .i64 (a : Nat), .int .i64 0]) ∧ ∃ G', Bu w' G' (bp (best P us)) (tkL (L (best P us)) 0 k a) (pt (tk (best P us)) a (some 0)) ∧ Kp (G (best P us)) G' W w') := fun W hW =>
    B.Take_ok ((g1.below hW).bu _ hi) (hlen _ hi) 0 k a r q1 q2 q3 q4 (by omega)
  have hcn := cN_take hP hi hao (u := u) (by omega)
  have CM : Hid (∀ W G', Pp W P.k p ga b cap (put G (best P us) G') bp P (put L (best P us) (tkL (L (best P us)) 0 k a)) (put tk (best P us) (pt (tk (best P us)) a (some 0))) us cn → Calls Tryz.prog 147 #[.pointer (some ⟨p, 0, none⟩), .int .i64 (P.f (best P us)), .int .i64 a, .int .u8 u] W fun e w' => e = .returned (.int .i64 (fm P (best P us) a : Nat)) ∧ Pp w' P.k p ga b cap (put G (best P us) G') bp P (put L (best P us) (tkL (L (best P us)) 0 k a)) (put tk (best P us) (pt (tk (best P us)) a (some 0))) (pt us (fm P (best P us) a) (some u)) (put (put cn u (cn u + 1)) 0 (cn 0 - 1)) ∧ Kp (fun k => k = p ∨ k = b) (fun k => k = p ∨ k = b) W w') := fun W G' hW =>
    mark_p hW hP _ a u hi haN (by omega) h6 (by rw [g2.cn]; exact hcn.1) (fun v => by rw [g2.cn]; have := cN_le hP us v; omega)
  have HFT : Hid (∀ x, F x ↔ foot P.k p ga b G x) := g3
  have c1 := g1.cc u (by omega)
  have c2 := g1.cq u (by omega)
  have e1 : cn u = cU us u 4096 := by rw [g2.cn u]; exact if_neg (by omega)
  rw [e1] at c1
  have l1 := cU_le4 us u
  have l2 := hP.qm u
  have hfb := hf16 _ hi
  have hi' := hi
  clear h g1 g2 g3 e1 hcn hf16 hlen hnx hao ha0 hx0 q1 q2 q3 q4
  generalize cU us u 4096 = x at *
  generalize P.q u = y at *
  generalize hbe : best P us = i at *
  generalize hfi : P.f i = f at *
  generalize hg : fm P i a = g at *
  have HI : Hid (i < P.k) := hi
  clear hbe hg hi hi'
  have i1 : (0 : Int) ≤ (u : Int) := by omega
  have i2 : (u : Int) < 7 := by omega
  have i3 : (x : Int) < (y : Int) := by omega
  have i4 : (0 : Int) ≤ (f : Int) := by omega
  have i5 : (f : Int) < 16 := by omega
  go_enter Tryz.func114, Tryz.ntmps114
  go_wp2_with (go_at_call 70; refine C1.out.mono ?_; rintro e w' ⟨rfl, h⟩; obtain rfl := h.symm)
  go_quiet (fail)
  go_wp2_with fail
  refine (CF.out _ (below_of (grown_drewN w _ none) _ (Nat.le_refl _) (by simp))).mono ?_
  rintro e w1 ⟨rfl, hB1⟩
  have HB1 : Hid (Below w.heap.size w w1) := (below_of (grown_drewN w _ none) w.heap.size (Nat.le_refl _) (by simp)).trans (hB1.mono (Nat.le_refl _))
  have hcb := (HP1.out w1 HB1.out).cb i HI.out
  rw [hfi] at hcb
  clear hB1 C1 CF c1 c2
  go_wp2_with fail
  refine (CT.out _ HB1.out).mono ?_
  rintro e w2 ⟨rfl, G2, hB2, hK2⟩
  have HP2 := (HP1.out w1 HB1.out).buddy i HI.out hK2 hB2
  have HK2 : Hid (Kp F (foot P.k p ga b (put G i G2)) w w2) := (below_kp HB1.out).trans (Kp.of_foot (foot_kp HI.out hK2) HFT.out (fun _ => Iff.rfl))
  have CM2 : Hid (Calls _ _ _ _ _) := CM.out w2 G2 HP2
  clear HP2 hB2 hK2 CT CM HP1 hcb
  go_wp2_with fail
  refine CM2.out.mono ?_
  rintro e w3 ⟨rfl, hP3, hK3⟩
  have HF3 := HPost.out w3 G2 hP3 (HK2.out.trans (Kp.wide hK3 (by rintro x (rfl | rfl); exact Or.inl rfl; exact Or.inr (Or.inr (Or.inl rfl)))))
  have HF4 : Hid (∃ us' F', Tkn P us u g us' ∧ Po w3 F' p P us' ∧ Kp F F' w w3) := HF3
  clear HF3 hP3 hK3 CM2 HPost HK2
  go_wp2
  go_ret2
  obtain ⟨us', F', t1, t2, t3⟩ := HF4.out
  exact ⟨_, _, _, rfl, t1, t2, t3⟩
end Go.Proofs.YtkbpnkjjmipjfaaGreat.P
namespace Go.Proofs.YtkbpnkjjmipjfaaGreat.P
open B Go.ChangeShapes Go.WideShapes Go.ChangeAt Go.RowKit
set_option linter.unusedVariables false
set_option maxRecDepth 8192

def Is (w : World) (base : Nat) (v : Value) (l : List Int) : Prop := w.ownsRow base 3 1 v l.length (tv l)
theorem Is.nil (w : World) (base : Nat) : Is w base (.slice none 0 0) [] := World.ownsRow_nil _ _ _ _
theorem Is.less {w : World} {base base' : Nat} {v : Value} {l : List Int} (h : Is w base v l) (hb : base' ≤ base) : Is w base' v l := by
  rcases h with ⟨h0, h⟩
  refine ⟨h0, ?_⟩
  rcases h with h | ⟨g, cap, cur, h1, h2, h3⟩
  · exact Or.inl h
  · exact Or.inr ⟨g, cap, cur, h1, Nat.le_trans hb h2, h3⟩
theorem Is.own {w : World} {base : Nat} {v : Value} {l : List Int} (h : Is w base v l) : Own w v l := h.less (Nat.zero_le _)
theorem Is.of_eq {w w' : World} {base : Nat} {v : Value} {l : List Int} (h : Is w base v l) (e : ∀ g, v.ownBlock = some g → w'.heap[g]? = w.heap[g]?) : Is w' base v l := by
  refine ⟨h.1, ?_⟩
  rcases h.2 with h1 | ⟨g, cap, cur, h1, h2, h3, h4⟩
  · exact Or.inl h1
  · subst h1
    exact Or.inr ⟨g, cap, cur, rfl, h2, (e g rfl).trans h3, h4⟩
theorem Is.lt {w : World} {base : Nat} {v : Value} {l : List Int} (h : Is w base v l) : ∀ g, v.ownBlock = some g → base ≤ g ∧ g < w.heap.size := by
  intro g hg
  refine ⟨?_, h.own.lt g hg⟩
  rcases h.2 with ⟨h1, _⟩ | ⟨g', cap, cur, h1, h2, _⟩
  · rw [h1] at hg; cases hg
  · rw [h1] at hg
    cases hg
    exact h2
theorem Is.below {w w' : World} {base : Nat} {v : Value} {l : List Int} (h : Is w base v l) (k : Below w.heap.size w w') : Is w' base v l := h.of_eq (fun g hg => k.block g (h.lt g hg).2)
theorem tv_snoc (l : List Int) (x : Int) : tv (l ++ [x]) = tv l ++ [.int .i64 x] := by simp [tv]
theorem is_snoc {w : World} {base : Nat} {v : Value} {l : List Int} {x : Int} (h : w.ownsRow base 3 1 v (l.length + 1) (tv l ++ [.int .i64 x])) : Is w base v (l ++ [x]) := by
  unfold Is
  rw [tv_snoc, List.length_append]
  exact h
theorem cell_one_new (w : World) (v : Value) (t : TypeId) : ∀ j u, [v][j]? = some u → (w.alloc (.cells #[v] t)).cell? ((⟨w.heap.size, 0, none⟩ : Addr).add j) = some u := by
  intro j u hu
  rw [Go.WideShapes.add_plain, cell_of_row _ _ (0 + j) _ t (0, 0) (heap_alloc_last w _), Nat.zero_add]
  simpa using hu
theorem cN_give {P : Par} (hP : P.Ok) {us : Us} {i a u : Nat} (hi : i < P.k) (ha : a < P.N) (hu : us (fm P i a) = some u) (h1 : 1 ≤ u) : 1 ≤ cN P us u ∧ ∀ v, put (put (cN P us) u (cN P us u - 1)) 0 (cN P us 0 + 1) v = cN P (pt us (fm P i a) none) v := by
  have hlt := fm_lt hP hi ha
  have h2 := sf_one (us := pt us (fm P i a) none) (us' := us) (i := i) (d := 1) (fre_give hP hi ha hu).symm hi (fun m hm hne => (fre_other hP hi hm hne _).symm)
  have h0 : cN P us 0 = sf P us P.k := rfl
  have hcu : cN P us u = cU us u 4096 := if_neg (by omega)
  have hc := cU_give hu u hlt
  rw [if_pos rfl] at hc
  refine ⟨by omega, fun v => ?_⟩
  by_cases e : v = 0
  · subst e
    rw [put_same, h0]
    show sf P us P.k + 1 = sf P _ P.k
    omega
  · rw [put_other _ _ _ _ e]
    have hv : cN P (pt us (fm P i a) none) v = cU (pt us (fm P i a) none) v 4096 := if_neg e
    rw [hv]
    have hcv := cU_give hu v hlt
    by_cases e2 : v = u
    · subst e2
      rw [put_same]
      omega
    · rw [put_other _ _ _ _ e2]
      rw [if_neg e2] at hcv
      have : cN P us v = cU us v 4096 := if_neg e
      omega
theorem Pq.give {P : Par} (hP : P.Ok) {us : Us} {L : Nat → Nat → List Nat} {tk : Nat → Nat → Option Nat} {cn : Nat → Nat} (h : Pq P us L tk cn) {i a u J : Nat} (hi : i < P.k) (ha : a < P.N) (hu : us (fm P i a) = some u) (h2 : 2 ≤ u) (ht : Top (L i) 0 a J) :
    Pq P (pt us (fm P i a) none) (put L i (gvE (L i) 0 a J)) (put tk i (pt (tk i) a none)) (put (put cn u (cn u - 1)) 0 (cn 0 + 1)) := by
  have s1 := ((h.st i hi).give (h.t0 i a u hi ha hu h2) ht).1
  rw [Nat.pow_zero, Nat.div_one] at s1
  have hc := cN_give hP hi ha hu (by omega)
  have ec : cn = cN P us := funext h.cn
  refine ⟨fun j hj => ?_, fun j x v hj hx hv h2 => ?_, fun v => ?_⟩
  · by_cases e : j = i
    · subst e
      rw [put_same, put_same, opn_back hP hj ha]
      exact s1
    · rw [put_other _ _ _ _ e, put_other _ _ _ _ e, opn_other hP hi hj e]
      exact h.st j hj
  · by_cases e : j = i
    · subst e
      rw [put_same]
      by_cases e2 : x = a
      · subst e2
        simp [pt] at hv
      · have hne : fm P j x ≠ fm P j a := fun q => e2 (fm_inj hP hj hj q).2
        have hv' : us (fm P j x) = some v := by simpa [pt, hne] using hv
        simp only [pt, e2, if_false]
        exact h.t0 j x v hj hx hv' h2
    · rw [put_other _ _ _ _ e]
      have hne : fm P j x ≠ fm P i a := fun q => e (fm_inj hP hj hi q).1
      have hv' : us (fm P j x) = some v := by simpa [pt, hne] using hv
      exact h.t0 j x v hj hx hv' h2
  · rw [ec]
    exact hc.2 v
theorem Give_none {w : World} {F : Nat → Prop} {p : Nat} {P : Par} {us : Us} (h : Po w F p P us) (x : Int) (h0 : -9223372036854775808 ≤ x) (h1 : x ≤ 9223372036854775807) (hx : ∀ g : Nat, x = g → us g = none) : Calls Tryz.prog 98 #[.pointer (some ⟨p, 0, none⟩), .int .i64 x] w fun e w' => e = .returned (.int .i64 91) ∧ w' = w := by
  obtain ⟨ga, b, cap, G, bp, L, tk, cn, g1, g2, g3⟩ := h.me
  have C1 : Hid (Calls _ _ _ _ _) := made_p g1
  have hcm := g1.cm
  have hlk := g1.mp.look_none h0 h1 hx
  clear h g1 g2 g3 h0 h1 hx
  go_enter Tryz.func98, Tryz.ntmps98
  go_wp2_with (go_at_call 70; refine C1.out.mono ?_; rintro e w' ⟨rfl, h⟩; obtain rfl := h.symm)
  go_ret
  exact ⟨rfl, rfl⟩
theorem wpList_delete_u {w : World} {ops : Array Oper} {rest : List Oper} {o : Oper} {a : Act} {Q : Exit → Act → World → Prop} {R : World → Prop} (hgd : o.guard = none) (s x : Operand)
    (ho : o.op = .call { callee := .builtin .delete, args := #[s, x], argTypes := #[112, 3] }) (vs vx : Value) (hs : a.eval s = vs) (hx : a.eval x = vx)
    (hr : ∃ w', (Builtin.delete_ #[112, 3] o.type #[vs, vx]).run Tryz.prog w = .ok (.tuple #[]) w' ∧ R w') (h : ∀ w', R w' → wpList Tryz.prog ops Q rest (a.put o.dst (.tuple #[])) w') : wpList Tryz.prog ops Q (o :: rest) a w := by
  refine wpList_plain hgd fun K hK => ?_
  obtain ⟨w', hr, hR⟩ := hr
  unfold Oper.wp
  simp [execOp, ho, resolve, invoke, builtin, hs, hx, hr, Result.andThen]
  exact hK _ _ (h w' hR)
set_option maxHeartbeats 2000000 in
theorem Give_p {w : World} {F : Nat → Prop} {p : Nat} {P : Par} {us : Us} (h : Po w F p P us) (g u : Nat) (hg : us g = some u) (h2 : 2 ≤ u) :
    Calls Tryz.prog 98 #[.pointer (some ⟨p, 0, none⟩), .int .i64 g] w fun e w' => ∃ F', e = .returned (.int .i64 0) ∧ Po w' F' p P (pt us g none) ∧ Kp F F' w w' := by
  obtain ⟨ga, b, cap, G, bp, L, tk, cn, g1, g2, g3⟩ := h.me
  have hP := h.ok
  obtain ⟨_, h6, i, x, hi, hx, rfl⟩ := h.va.us1 g u hg
  have hlt := fm_lt hP hi hx
  have hN2 := hP.N2
  have hC1 := hP.C1
  have hC2 := hP.C2
  have hlen := fun i hi => st_len (g2.st i hi) hP.N2
  have hf16 : ∀ i, i < P.k → P.f i < 16 := fun i hi => Nat.lt_of_lt_of_le (hP.fC i hi) hP.C2
  have hcn := cN_give hP hi hx hg (by omega)
  have C1 : Hid (Calls Tryz.prog 70 #[.pointer (some ⟨p, 0, none⟩)] w _) := made_p g1
  have hcm := g1.cm
  have hlk := g1.mp.look_some (Nat.le_refl _) hg
  have C2 : Hid (Calls Tryz.prog 131 #[.int .i64 (fm P i x : Nat), .int .i64 P.C] w (K.Two (P.f i) 0 w)) := by
    have := K.Of_ok (fm P i x : Nat) P.C (by omega) (by omega) (by omega) (by omega) w
    rw [show ((fm P i x : Nat) : Int) % (P.C : Int) = (P.f i : Int) by rw [← fm_mod (hP.fC i hi) x]; simp] at this
    exact this
  have C3 : Hid (Calls Tryz.prog 132 #[.int .i64 (fm P i x : Nat), .int .i64 P.C] w (K.Two x 0 w)) := by
    have := K.Index_ok (fm P i x : Nat) P.C (by omega) (by omega) (by omega) (by omega) w
    rw [show ((fm P i x : Nat) : Int) / (P.C : Int) = (x : Int) by rw [← Int.natCast_ediv, fm_div (hP.fC i hi)]] at this
    exact this
  have CG : Hid (∀ W, Below w.heap.size w W → Calls Tryz.prog 133 #[.pointer (some ⟨bp i, 0, none⟩), .int .i64 x, .int .i64 0] W fun e w' => e = .returned (.int .i64 0) ∧ Jnd W (G i) (bp i) (L i) (pt (tk i) x none) 0 x w') := fun W hW =>
    B.Give_ok ((g1.below hW).bu i hi) (hlen i hi) (fun j hj => ((g2.st i hi).fit j (by omega)).1) x 0 (by omega) (by omega) (by rw [Nat.pow_zero]; exact Nat.mod_one x) (g2.t0 i x u hi hx hg h2)
  have HP1 : Hid (Pp w P.k p ga b cap G bp P L tk us cn) := g1
  have HPost : Hid (∀ W G' J, Top (L i) 0 x J → Pp W P.k p ga b cap (put G i G') bp P (put L i (gvE (L i) 0 x J)) (put tk i (pt (tk i) x none)) (pt us (fm P i x) none) (put (put cn u (cn u - 1)) 0 (cn 0 + 1)) → Kp F (foot P.k p ga b (put G i G')) w W → ∃ F', Po W F' p P (pt us (fm P i x) none) ∧ Kp F F' w W) := fun W G' J hJ hW hK =>
    ⟨_, ⟨hP, h.va.give hP hi hx hg h2, ga, b, cap, _, bp, _, _, _, hW, g2.give hP hi hx hg h2 hJ, fun _ => Iff.rfl⟩, hK⟩
  have HFT : Hid (∀ x, F x ↔ foot P.k p ga b G x) := g3
  have h0 := g1.c0
  have hcb := g1.cb i hi
  have hfb := hf16 i hi
  have HF : Hid (∀ i, i < P.k → P.f i < 16) := hf16
  have HI : Hid (i < P.k) := hi
  have HC : Hid (1 ≤ cn u) := by have := hcn.1; rw [← g2.cn] at this; exact this
  have hm0 : cn 0 ≤ 65536 := by rw [g2.cn]; exact cN_le hP us 0
  have hmu : cn u ≤ 65536 := by rw [g2.cn]; exact cN_le hP us u
  clear h g1 g2 g3 hcn hf16 hlen hg hi hN2 hP
  generalize fm P i x = g at *
  generalize hfi : P.f i = f at *
  have i1 : (0 : Int) ≤ (u : Int) := by omega
  have i2 : (u : Int) < 7 := by omega
  have i4 : (0 : Int) ≤ (f : Int) := by omega
  have i5 : (f : Int) < 16 := by omega
  have i6 : ¬ ((u : Int) = 1) := by omega
  go_enter Tryz.func98, Tryz.ntmps98
  go_wp2_with (first | (go_at_call 70; refine C1.out.mono ?_; rintro e w' ⟨rfl, h⟩; obtain rfl := h.symm) | (go_at_call 131; refine C2.out.mono ?_; rintro e w' ⟨rfl, h⟩; obtain rfl := h.symm) | (go_at_call 132; refine C3.out.mono ?_; rintro e w' ⟨rfl, h⟩; obtain rfl := h.symm))
  refine (CG.out _ (Below.refl _ _)).mono ?_
  rintro e w1 ⟨rfl, J, hJ, G1, hB1, hK1⟩
  have HP2 : Hid (Pp w1 P.k p ga b cap (put G i G1) bp P (put L i (gvE (L i) 0 x J)) (put tk i (pt (tk i) x none)) us cn) := HP1.out.buddy i HI.out hK1 hB1
  have HK2 : Hid (Kp F (foot P.k p ga b (put G i G1)) _ w1) := Kp.of_foot (foot_kp HI.out hK1) HFT.out (fun _ => Iff.rfl)
  have HJ : Hid (Top (L i) 0 x J) := hJ
  have HDE : Hid (∀ ty, ∃ w', (Builtin.delete_ #[112, 3] ty #[.map (some b), .int .i64 g]).run Tryz.prog w1 = .ok (.tuple #[]) w' ∧ (Mu w' b 4096 (pt us g none) ∧ w1.grownBy w' (some b))) := fun ty => HP2.out.mp.drop g (by omega) ty
  have hcm2 := HP2.out.cm
  clear hJ hB1 hK1 C1 C2 C3 CG HP1 hcm hlk h0 hcb
  go_wp2_with (at_delete; refine wpList_delete_u rfl (.tmp 58) (.tmp 59) rfl _ _ rfl rfl (HDE.out _) ?_; rintro w2 ⟨hM2, hG2⟩)
  have HP3 : Hid (Pp w2 P.k p ga b cap (put G i G1) bp P (put L i (gvE (L i) 0 x J)) (put tk i (pt (tk i) x none)) (pt us g none) cn) := HP2.out.mapped hG2 hM2
  have HK3 : Hid (Kp F (foot P.k p ga b (put G i G1)) _ w2) := HK2.out.trans (Kp.of_grown hG2 (by rintro g e; injection e with e; exact Or.inr (Or.inr (Or.inl e.symm))) (fun _ h => Or.inl h))
  have c1 := HP3.out.cc u (by omega)
  have z1 := HP3.out.fz (27 + u)
  obtain ⟨d, hd⟩ : ∃ d, cn u = d + 1 := ⟨cn u - 1, by have := HC.out; omega⟩
  have HD : Hid (cn u = d + 1) := hd
  rw [hd] at c1 hmu
  clear hd hM2 hG2 HP2 HK2 HDE hcm2
  have hdw : IntKind.i64.wrap (d : Int) = (d : Int) := IntWalk.i64_in _ (by omega)
  go_wp2
  go_region
  have HP4 : Hid (Pp (w2.setCell ⟨p, 27 + u, none⟩ (.int .i64 (d : Int))).drew P.k p ga b cap (put G i G1) bp P (put L i (gvE (L i) 0 x J)) (put tk i (pt (tk i) x none)) (pt us g none) (put cn u (cn u - 1))) := by
    have := HP3.out.count u (by omega) (cn u - 1) HF.out
    rw [HD.out, show d + 1 - 1 = d by omega] at this
    rw [HD.out, show d + 1 - 1 = d by omega]
    exact this.of_eq (Nat.le_refl _) (fun _ _ => rfl)
  have HK4 : Hid (Kp F (foot P.k p ga b (put G i G1)) _ (w2.setCell ⟨p, 27 + u, none⟩ (.int .i64 (d : Int))).drew) := HK3.out.trans (Kp.of_grown ((grown_setCell' _ _ _ _).trans (grown_drew _ _)) (by rintro g e; injection e with e; exact Or.inl e.symm) (fun _ h => Or.inl h))
  clear c1 z1 HP3 HK3
  generalize (w2.setCell ⟨p, 27 + u, none⟩ (.int .i64 (d : Int))).drew = w3 at *
  have c2 := HP4.out.cc 0 (by omega)
  have z2 := HP4.out.fz (27 + 0)
  rw [put_other _ _ _ _ (show (0 : Nat) ≠ u by omega)] at c2
  go_wp2
  go_region
  have HP5 : Hid (Pp (w3.setCell ⟨p, 27, none⟩ (.int .i64 ((cn 0 : Int) + 1))).drew P.k p ga b cap (put G i G1) bp P (put L i (gvE (L i) 0 x J)) (put tk i (pt (tk i) x none)) (pt us g none) (put (put cn u (cn u - 1)) 0 (cn 0 + 1))) :=
    (HP4.out.count 0 (by omega) (cn 0 + 1) HF.out).of_eq (Nat.le_refl _) (fun _ _ => rfl)
  have HK5 : Hid (Kp F (foot P.k p ga b (put G i G1)) _ (w3.setCell ⟨p, 27, none⟩ (.int .i64 ((cn 0 : Int) + 1))).drew) := HK4.out.trans (Kp.of_grown ((grown_setCell' _ _ _ _).trans (grown_drew _ _)) (by rintro g e; injection e with e; exact Or.inl e.symm) (fun _ h => Or.inl h))
  clear c2 z2 HP4 HK4
  have HF5 : Hid (∃ F', Po (w3.setCell ⟨p, 27, none⟩ (.int .i64 ((cn 0 : Int) + 1))).drew F' p P (pt us g none) ∧ Kp F F' _ (w3.setCell ⟨p, 27, none⟩ (.int .i64 ((cn 0 : Int) + 1))).drew) := HPost.out _ _ _ HJ.out HP5.out HK5.out
  clear HP5 HK5 HPost
  generalize (w3.setCell ⟨p, 27, none⟩ (.int .i64 ((cn 0 : Int) + 1))).drew = w4 at *
  go_wp2
  go_ret
  obtain ⟨F', t1, t2⟩ := HF5.out
  exact ⟨F', rfl, t1, t2⟩
end Go.Proofs.YtkbpnkjjmipjfaaGreat.P
namespace Go.Proofs.YtkbpnkjjmipjfaaGreat.P
open B Go.ChangeShapes Go.WideShapes Go.ChangeAt Go.RowKit
set_option linter.unusedVariables false
set_option maxRecDepth 8192

end Go.Proofs.YtkbpnkjjmipjfaaGreat.P
