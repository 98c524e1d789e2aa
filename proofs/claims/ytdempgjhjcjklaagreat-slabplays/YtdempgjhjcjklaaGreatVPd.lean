/- What Take of package pool gives back and leaves, by the uses of the frames alone; no condition but those that each theorem names. -/
import Derived.Test.YtdempgjhjcjklaaGreatVPc
import Derived.Laws.AppendOwnNone
namespace Go.Proofs.YtdempgjhjcjklaaGreat.P
open B Go.ChangeShapes Go.WideShapes Go.ChangeAt Go.RowKit
set_option linter.unusedVariables false
set_option maxRecDepth 8192

def cN (P : Par) (us : Us) (u : Nat) : Nat := if u = 0 then sf P us P.k else cU us u 4096
structure Pq (P : Par) (us : Us) (L : Nat → Nat → List Nat) (tk : Nat → Nat → Option Nat) (cn : Nat → Nat) : Prop where
  st : ∀ i, i < P.k → St P.N (opn P us i) (L i) (tk i)
  t0 : ∀ i x u, i < P.k → x < P.N → us (fm P i x) = some u → 2 ≤ u → tk i x = some 0
  cn : ∀ u, cn u = cN P us u
structure Po (w : World) (F : Nat → Prop) (p : Nat) (P : Par) (us : Us) : Prop where
  ok : P.Ok
  va : Va P us
  me : ∃ ga b cap G bp L tk cn, Pp w P.k p ga b cap G bp P L tk us cn ∧ Pq P us L tk cn ∧ ∀ x, F x ↔ foot P.k p ga b G x
theorem Po.of_eq {w w' : World} {F : Nat → Prop} {p : Nat} {P : Par} {us : Us} (h : Po w F p P us) (hs : w.heap.size ≤ w'.heap.size) (e : ∀ x, F x → w'.heap[x]? = w.heap[x]?) : Po w' F p P us := by
  obtain ⟨ga, b, cap, G, bp, L, tk, cn, h1, h2, h3⟩ := h.me
  exact ⟨h.ok, h.va, ga, b, cap, G, bp, L, tk, cn, h1.of_eq hs (fun x hx => e x ((h3 x).2 hx)), h2, h3⟩
theorem Po.lt {w : World} {F : Nat → Prop} {p : Nat} {P : Par} {us : Us} (h : Po w F p P us) : ∀ x, F x → x < w.heap.size := by
  obtain ⟨ga, b, cap, G, bp, L, tk, cn, h1, h2, h3⟩ := h.me
  exact fun x hx => h1.flt x ((h3 x).1 hx)
theorem Po.below {w w' : World} {F : Nat → Prop} {p : Nat} {P : Par} {us : Us} (h : Po w F p P us) (k : Below w.heap.size w w') : Po w' F p P us := h.of_eq k.size (fun x hx => k.block x (h.lt x hx))
theorem cU_le4 (us : Us) (u : Nat) : cU us u 4096 ≤ 4096 := cU_le us u 4096
theorem sf_le (P : Par) (us : Us) : ∀ j, sf P us j ≤ j * P.N
  | 0 => by simp [sf]
  | j + 1 => by
    have := sf_le P us j
    have := fre_le P us j
    rw [sf, Nat.add_mul]
    omega
theorem cN_le {P : Par} (h : P.Ok) (us : Us) (u : Nat) : cN P us u ≤ 65536 := by
  unfold cN
  split
  · have h1 := sf_le P us P.k
    have h2 := Nat.mul_le_mul h.k2 h.N2
    omega
  · have := cU_le4 us u
    omega
theorem bs_congr {v v' : Nat → Nat} : ∀ j, (∀ i, i ≤ j → v i = v' i) → bs v j = bs v' j
  | 0, _ => rfl
  | j + 1, h => by
    have ih := bs_congr j (fun i hi => h i (by omega))
    rw [bs, bs, ih, h (j + 1) (by omega), h (bs v' j) (by have := bs_le v' j; omega)]
theorem Pq.fr {P : Par} {us : Us} {L : Nat → Nat → List Nat} {tk : Nat → Nat → Option Nat} {cn : Nat → Nat} (h : Pq P us L tk cn) {i : Nat} (hi : i < P.k) : fr (L i) = fre P us i := ((h.st i hi).cn).symm
theorem Pq.best {P : Par} {us : Us} {L : Nat → Nat → List Nat} {tk : Nat → Nat → Option Nat} {cn : Nat → Nat} (h : Pq P us L tk cn) (hk : 1 ≤ P.k) : bs (fun i => B.fr (L i)) (P.k - 1) = best P us := bs_congr _ (fun i hi => h.fr (by omega))
theorem cN_take {P : Par} (hP : P.Ok) {us : Us} {i a u : Nat} (hi : i < P.k) (ha : opn P us i a = true) (hu : 1 ≤ u) : 1 ≤ cN P us 0 ∧ ∀ v, put (put (cN P us) u (cN P us u + 1)) 0 (cN P us 0 - 1) v = cN P (pt us (fm P i a) (some u)) v := by
  obtain ⟨hn, hg⟩ := opn_iff.1 ha
  have hlt := fm_lt hP hi hn
  have h1 := sf_one (fre_take hP hi ha u) hi (fun m hm hne => fre_other hP hi hm hne _)
  have h0 : cN P us 0 = sf P us P.k := rfl
  refine ⟨by omega, fun v => ?_⟩
  by_cases e : v = 0
  · subst e
    rw [put_same, h0]
    show sf P us P.k - 1 = sf P _ P.k
    omega
  · rw [put_other _ _ _ _ e]
    have hv : cN P (pt us (fm P i a) (some u)) v = cU (pt us (fm P i a) (some u)) v 4096 := if_neg e
    rw [hv, cU_take hg u v hlt]
    by_cases e2 : v = u
    · subst e2
      rw [put_same, if_pos rfl]
      unfold cN
      rw [if_neg e]
    · rw [put_other _ _ _ _ e2, if_neg e2, Nat.add_zero]
      unfold cN
      rw [if_neg e]
def Tkn (P : Par) (us : Us) (u g : Nat) (us' : Us) : Prop := ∃ a, Nx (opn P us (best P us)) 0 a ∧ g = fm P (best P us) a ∧ us' = pt us g (some u)
theorem Tkn.uniq {P : Par} {us : Us} {u g g' : Nat} {us' us'' : Us} (h : Tkn P us u g us') (h' : Tkn P us u g' us'') : g = g' ∧ us' = us'' := by
  obtain ⟨a, h1, h2, h3⟩ := h
  obtain ⟨a', q1, q2, q3⟩ := h'
  have := h1.uniq q1
  subst this
  subst h2 q2
  exact ⟨rfl, by rw [h3, q3]⟩
theorem Take_arg {w : World} {F : Nat → Prop} {p : Nat} {P : Par} {us : Us} (h : Po w F p P us) (u : Int) (hu : u < 2 ∨ 6 < u) : Calls Tryz.prog 36 #[.pointer (some ⟨p, 0, none⟩), .int .u8 u] w fun e w' => e = .returned (.tuple #[.int .i64 0, .int .i64 2]) ∧ w' = w := by
  obtain ⟨ga, b, cap, G, bp, L, tk, cn, h1, h2, h3⟩ := h.me
  have C1 : Hid (Calls _ _ _ _ _) := made_p h1
  clear h h1 h2 h3
  go_enter Tryz.func36, Tryz.ntmps36
  go_wp2_with (go_at_call 44; refine C1.out.mono ?_; rintro e w' ⟨rfl, h⟩; obtain rfl := h.symm)
  all_goals (go_ret2; exact ⟨rfl, rfl⟩)
theorem Take_mem {w : World} {F : Nat → Prop} {p : Nat} {P : Par} {us : Us} (h : Po w F p P us) (u : Nat) (h2 : 2 ≤ u) (h6 : u ≤ 6) (hq : P.q u ≤ cU us u 4096) : Calls Tryz.prog 36 #[.pointer (some ⟨p, 0, none⟩), .int .u8 u] w fun e w' => e = .returned (.tuple #[.int .i64 0, .int .i64 4]) ∧ Below w.heap.size w w' := by
  obtain ⟨ga, b, cap, G, bp, L, tk, cn, g1, g2, g3⟩ := h.me
  have C1 : Hid (Calls _ _ _ _ _) := made_p g1
  have c1 := g1.cc u (by omega)
  have c2 := g1.cq u (by omega)
  have e1 : cn u = cU us u 4096 := by rw [g2.cn u]; exact if_neg (by omega)
  rw [e1] at c1
  have l1 := cU_le4 us u
  have l2 := h.ok.qm u
  generalize cU us u 4096 = x at *
  generalize P.q u = y at *
  clear h g1 g2 g3 e1
  have i1 : (0 : Int) ≤ (u : Int) := by omega
  have i2 : (u : Int) < 7 := by omega
  have i3 : (y : Int) ≤ (x : Int) := by omega
  go_enter Tryz.func36, Tryz.ntmps36
  go_wp2_with (go_at_call 44; refine C1.out.mono ?_; rintro e w' ⟨rfl, h⟩; obtain rfl := h.symm)
  go_quiet (fail)
  go_wp2
  go_ret2
  exact ⟨rfl, below_of (grown_drewN w _ none) _ (Nat.le_refl _) (by simp)⟩
theorem Pq.take {P : Par} (hP : P.Ok) {us : Us} {L : Nat → Nat → List Nat} {tk : Nat → Nat → Option Nat} {cn : Nat → Nat} (h : Pq P us L tk cn) {i a k u : Nat} {r : List Nat} (hi : i < P.k) (hk : k ≤ 6) (he : ∀ j, 0 ≤ j → j < k → L i j = []) (hL : L i k = a :: r) (hu : 1 ≤ u) :
    Pq P (pt us (fm P i a) (some u)) (put L i (tkL (L i) 0 k a)) (put tk i (pt (tk i) a (some 0))) (put (put cn u (cn u + 1)) 0 (cn 0 - 1)) := by
  obtain ⟨s1, s2, s3, s4, s5, s6⟩ := (h.st i hi).take (Nat.zero_le _) hk he hL
  rw [Nat.pow_zero, Nat.div_one] at s1 s2
  have ha : opn P us i a = true := s2 a (by rw [Nat.pow_zero, Nat.div_one])
  have hc := cN_take hP hi ha hu
  have ec : cn = cN P us := funext h.cn
  refine ⟨fun j hj => ?_, fun j x v hj hx hv h2 => ?_, fun v => ?_⟩
  · by_cases e : j = i
    · subst e
      rw [put_same, put_same, opn_same hP hj u]
      exact s1
    · rw [put_other _ _ _ _ e, put_other _ _ _ _ e, opn_other hP hi hj e]
      exact h.st j hj
  · by_cases e : j = i
    · subst e
      rw [put_same]
      by_cases e2 : x = a
      · subst e2
        simp [pt]
      · have hne : fm P j x ≠ fm P j a := fun q => e2 (fm_inj hP hj hj q).2
        have hv' : us (fm P j x) = some v := by simpa [pt, hne] using hv
        simp only [pt, e2, if_false]
        exact h.t0 j x v hj hx hv' h2
    · rw [put_other _ _ _ _ e]
      have hne : fm P j x ≠ fm P i a := fun q => e (fm_inj hP hj hi q).1
      have hv' : us (fm P j x) = some v := by simpa [pt, hne] using hv
      exact h.t0 j x v hj hx hv' h2
  · rw [ec]
    exact hc.2 v
theorem foot_kp {w w' : World} {m p ga b j : Nat} {G : Nat → Nat → Prop} {G' : Nat → Prop} (hj : j < m) (k : Kp (G j) G' w w') : Kp (foot m p ga b G) (foot m p ga b (put G j G')) w w' := by
  refine ⟨k.os, k.tape, k.output, k.size, fun x hx hn => k.block x hx (fun z => hn (Or.inr (Or.inr (Or.inr ⟨j, hj, z⟩)))), ?_⟩
  rintro x (rfl | rfl | rfl | ⟨i, hi, hx⟩)
  · exact Or.inl (Or.inl rfl)
  · exact Or.inl (Or.inr (Or.inl rfl))
  · exact Or.inl (Or.inr (Or.inr (Or.inl rfl)))
  · by_cases e : i = j
    · subst e
      rw [put_same] at hx
      rcases k.new x hx with z | z
      · exact Or.inl (Or.inr (Or.inr (Or.inr ⟨i, hi, z⟩)))
      · exact Or.inr z
    · rw [put_other _ _ _ _ e] at hx
      exact Or.inl (Or.inr (Or.inr (Or.inr ⟨i, hi, hx⟩)))
theorem Kp.of_foot {F F' A B : Nat → Prop} {w w' : World} (k : Kp A B w w') (h : ∀ x, F x ↔ A x) (h' : ∀ x, F' x ↔ B x) : Kp F F' w w' :=
  ⟨k.os, k.tape, k.output, k.size, fun x hx hn => k.block x hx (fun z => hn ((h x).2 z)), fun x hx => (k.new x ((h' x).1 hx)).imp (h x).2 id⟩
theorem below_kp {F : Nat → Prop} {w w' : World} (h : Below w.heap.size w w') : Kp F F w w' := ⟨h.os, h.tape, h.output, h.size, fun x hx _ => h.block x hx, fun _ h => Or.inl h⟩
set_option maxHeartbeats 1000000 in
theorem Take_p {w : World} {F : Nat → Prop} {p : Nat} {P : Par} {us : Us} (h : Po w F p P us) (u : Nat) (h2 : 2 ≤ u) (h6 : u ≤ 6) (hq : cU us u 4096 < P.q u) :
    Calls Tryz.prog 36 #[.pointer (some ⟨p, 0, none⟩), .int .u8 u] w fun e w' => ∃ g us' F', e = .returned (.tuple #[.int .i64 (g : Nat), .int .i64 0]) ∧ Tkn P us u g us' ∧ Po w' F' p P us' ∧ Kp F F' w w' := by
  obtain ⟨ga, b, cap, G, bp, L, tk, cn, g1, g2, g3⟩ := h.me
  have hP := h.ok
  have hi := best_lt hP us
  obtain ⟨x0, hx0⟩ := h.va.best_open hP h2 h6 hq
  obtain ⟨a0, ha0⟩ := nx_of_open (g2.st _ hi) hx0
  rcases take_case (L (best P us)) 0 with he | ⟨k, a, r, q1, q2, q3, q4⟩
  · exact absurd ha0 (st_no_nx (g2.st _ hi) he a0)
  have hnx := st_nx (g2.st _ hi) q1 q2 q3 q4
  have hao := hnx.open
  have haN := (opn_iff.1 hao).1
  have hN2 := hP.N2
  have hlen := fun i hi => st_len (g2.st i hi) hP.N2
  have hf16 : ∀ i, i < P.k → P.f i < 16 := fun i hi => Nat.lt_of_lt_of_le (hP.fC i hi) hP.C2
  have C1 : Hid (Calls Tryz.prog 44 #[.pointer (some ⟨p, 0, none⟩)] w _) := made_p g1
  have CF : Hid (∀ W, Below w.heap.size w W → Calls Tryz.prog 74 #[.pointer (some ⟨p, 0, none⟩)] W fun e w' => e = .returned (.int .i64 (P.f (best P us) : Nat)) ∧ Below W.heap.size W w') := fun W hW => by
    have := fullest_p (g1.below hW) hP.k1 hP.k2 hf16 hlen
    rw [g2.best hP.k1] at this
    exact this
  have HP1 : Hid (∀ W, Below w.heap.size w W → Pp W P.k p ga b cap G bp P L tk us cn) := fun W hW => g1.below hW
  have HPost : Hid (∀ W G', Pp W P.k p ga b cap (put G (best P us) G') bp P (put L (best P us) (tkL (L (best P us)) 0 k a)) (put tk (best P us) (pt (tk (best P us)) a (some 0))) (pt us (fm P (best P us) a) (some u)) (put (put cn u (cn u + 1)) 0 (cn 0 - 1)) → Kp F (foot P.k p ga b (put G (best P us) G')) w W → ∃ us' F', Tkn P us u (fm P (best P us) a) us' ∧ Po W F' p P us' ∧ Kp F F' w W) := fun W G' hW hK =>
    ⟨_, _, ⟨a, hnx, rfl, rfl⟩, ⟨hP, h.va.take hP hi hao h2 h6 hq, ga, b, cap, _, bp, _, _, _, hW, g2.take hP hi q2 q3 q4 (by omega), fun _ => Iff.rfl⟩, hK⟩
  have CT : Hid (∀ W, Below w.heap.size w W → Calls Tryz.prog 45 #[.pointer (some ⟨bp (best P us), 0, none⟩), .int .i64 0] W fun e w' => e = .returned (.tuple #[.int .i64 (a : Nat), .int .i64 0]) ∧ ∃ G', Bu w' G' (bp (best P us)) (tkL (L (best P us)) 0 k a) (pt (tk (best P us)) a (some 0)) ∧ Kp (G (best P us)) G' W w') := fun W hW =>
    B.Take_ok ((g1.below hW).bu _ hi) (hlen _ hi) 0 k a r q1 q2 q3 q4 (by omega)
  have hcn := cN_take hP hi hao (u := u) (by omega)
  have CM : Hid (∀ W G', Pp W P.k p ga b cap (put G (best P us) G') bp P (put L (best P us) (tkL (L (best P us)) 0 k a)) (put tk (best P us) (pt (tk (best P us)) a (some 0))) us cn → Calls Tryz.prog 46 #[.pointer (some ⟨p, 0, none⟩), .int .i64 (P.f (best P us)), .int .i64 a, .int .u8 u] W fun e w' => e = .returned (.int .i64 (fm P (best P us) a : Nat)) ∧ Pp w' P.k p ga b cap (put G (best P us) G') bp P (put L (best P us) (tkL (L (best P us)) 0 k a)) (put tk (best P us) (pt (tk (best P us)) a (some 0))) (pt us (fm P (best P us) a) (some u)) (put (put cn u (cn u + 1)) 0 (cn 0 - 1)) ∧ Kp (fun k => k = p ∨ k = b) (fun k => k = p ∨ k = b) W w') := fun W G' hW =>
    mark_p hW hP _ a u hi haN (by omega) h6 (by rw [g2.cn]; exact hcn.1) (fun v => by rw [g2.cn]; have := cN_le hP us v; omega)
  have HFT : Hid (∀ x, F x ↔ foot P.k p ga b G x) := g3
  have c1 := g1.cc u (by omega)
  have c2 := g1.cq u (by omega)
  have e1 : cn u = cU us u 4096 := by rw [g2.cn u]; exact if_neg (by omega)
  rw [e1] at c1
  have l1 := cU_le4 us u
  have l2 := hP.qm u
  have hfb := hf16 _ hi
  have hi' := hi
  clear h g1 g2 g3 e1 hcn hf16 hlen hnx hao ha0 hx0 q1 q2 q3 q4
  generalize cU us u 4096 = x at *
  generalize P.q u = y at *
  generalize hbe : best P us = i at *
  generalize hfi : P.f i = f at *
  generalize hg : fm P i a = g at *
  have HI : Hid (i < P.k) := hi
  clear hbe hg hi hi'
  have i1 : (0 : Int) ≤ (u : Int) := by omega
  have i2 : (u : Int) < 7 := by omega
  have i3 : (x : Int) < (y : Int) := by omega
  have i4 : (0 : Int) ≤ (f : Int) := by omega
  have i5 : (f : Int) < 16 := by omega
  go_enter Tryz.func36, Tryz.ntmps36
  go_wp2_with (go_at_call 44; refine C1.out.mono ?_; rintro e w' ⟨rfl, h⟩; obtain rfl := h.symm)
  go_quiet (fail)
  go_wp2_with fail
  refine (CF.out _ (below_of (grown_drewN w _ none) _ (Nat.le_refl _) (by simp))).mono ?_
  rintro e w1 ⟨rfl, hB1⟩
  have HB1 : Hid (Below w.heap.size w w1) := (below_of (grown_drewN w _ none) w.heap.size (Nat.le_refl _) (by simp)).trans (hB1.mono (Nat.le_refl _))
  have hcb := (HP1.out w1 HB1.out).cb i HI.out
  rw [hfi] at hcb
  clear hB1 C1 CF c1 c2
  go_wp2_with fail
  refine (CT.out _ HB1.out).mono ?_
  rintro e w2 ⟨rfl, G2, hB2, hK2⟩
  have HP2 := (HP1.out w1 HB1.out).buddy i HI.out hK2 hB2
  have HK2 : Hid (Kp F (foot P.k p ga b (put G i G2)) w w2) := (below_kp HB1.out).trans (Kp.of_foot (foot_kp HI.out hK2) HFT.out (fun _ => Iff.rfl))
  have CM2 : Hid (Calls _ _ _ _ _) := CM.out w2 G2 HP2
  clear HP2 hB2 hK2 CT CM HP1 hcb
  go_wp2_with fail
  refine CM2.out.mono ?_
  rintro e w3 ⟨rfl, hP3, hK3⟩
  have HF3 := HPost.out w3 G2 hP3 (HK2.out.trans (Kp.wide hK3 (by rintro x (rfl | rfl); exact Or.inl rfl; exact Or.inr (Or.inr (Or.inl rfl)))))
  have HF4 : Hid (∃ us' F', Tkn P us u g us' ∧ Po w3 F' p P us' ∧ Kp F F' w w3) := HF3
  clear HF3 hP3 hK3 CM2 HPost HK2
  go_wp2
  go_ret2
  obtain ⟨us', F', t1, t2, t3⟩ := HF4.out
  exact ⟨_, _, _, rfl, t1, t2, t3⟩
end Go.Proofs.YtdempgjhjcjklaaGreat.P
namespace Go.Proofs.YtdempgjhjcjklaaGreat.P
open B Go.ChangeShapes Go.WideShapes Go.ChangeAt Go.RowKit
set_option linter.unusedVariables false
set_option maxRecDepth 8192

def Is (w : World) (base : Nat) (v : Value) (l : List Int) : Prop := w.ownsRow base 3 1 v l.length (tv l)
theorem Is.nil (w : World) (base : Nat) : Is w base (.slice none 0 0) [] := World.ownsRow_nil _ _ _ _
theorem Is.less {w : World} {base base' : Nat} {v : Value} {l : List Int} (h : Is w base v l) (hb : base' ≤ base) : Is w base' v l := by
  rcases h with ⟨h0, h⟩
  refine ⟨h0, ?_⟩
  rcases h with h | ⟨g, cap, cur, h1, h2, h3⟩
  · exact Or.inl h
  · exact Or.inr ⟨g, cap, cur, h1, Nat.le_trans hb h2, h3⟩
theorem Is.own {w : World} {base : Nat} {v : Value} {l : List Int} (h : Is w base v l) : Own w v l := h.less (Nat.zero_le _)
theorem Is.of_eq {w w' : World} {base : Nat} {v : Value} {l : List Int} (h : Is w base v l) (e : ∀ g, v.ownBlock = some g → w'.heap[g]? = w.heap[g]?) : Is w' base v l := by
  refine ⟨h.1, ?_⟩
  rcases h.2 with h1 | ⟨g, cap, cur, h1, h2, h3, h4⟩
  · exact Or.inl h1
  · subst h1
    exact Or.inr ⟨g, cap, cur, rfl, h2, (e g rfl).trans h3, h4⟩
theorem Is.lt {w : World} {base : Nat} {v : Value} {l : List Int} (h : Is w base v l) : ∀ g, v.ownBlock = some g → base ≤ g ∧ g < w.heap.size := by
  intro g hg
  refine ⟨?_, h.own.lt g hg⟩
  rcases h.2 with ⟨h1, _⟩ | ⟨g', cap, cur, h1, h2, _⟩
  · rw [h1] at hg; cases hg
  · rw [h1] at hg
    cases hg
    exact h2
theorem Is.below {w w' : World} {base : Nat} {v : Value} {l : List Int} (h : Is w base v l) (k : Below w.heap.size w w') : Is w' base v l := h.of_eq (fun g hg => k.block g (h.lt g hg).2)
theorem tv_snoc (l : List Int) (x : Int) : tv (l ++ [x]) = tv l ++ [.int .i64 x] := by simp [tv]
theorem is_snoc {w : World} {base : Nat} {v : Value} {l : List Int} {x : Int} (h : w.ownsRow base 3 1 v (l.length + 1) (tv l ++ [.int .i64 x])) : Is w base v (l ++ [x]) := by
  unfold Is
  rw [tv_snoc, List.length_append]
  exact h
theorem cell_one_new (w : World) (v : Value) (t : TypeId) : ∀ j u, [v][j]? = some u → (w.alloc (.cells #[v] t)).cell? ((⟨w.heap.size, 0, none⟩ : Addr).add j) = some u := by
  intro j u hu
  rw [Go.WideShapes.add_plain, cell_of_row _ _ (0 + j) _ t (0, 0) (heap_alloc_last w _), Nat.zero_add]
  simpa using hu
def frs (P : Par) (us : Us) (j : Nat) : List Int := (List.range j).map fun i => (fre P us i : Int)
theorem frs_len (P : Par) (us : Us) (j : Nat) : (frs P us j).length = j := by simp [frs]
theorem frs_succ (P : Par) (us : Us) (j : Nat) : frs P us (j + 1) = frs P us j ++ [(fre P us j : Int)] := by simp [frs, List.range_succ]
set_option maxHeartbeats 1000000 in
theorem Free_p {w : World} {F : Nat → Prop} {p : Nat} {P : Par} {us : Us} (h : Po w F p P us) :
    Calls Tryz.prog 14 #[.pointer (some ⟨p, 0, none⟩)] w fun e w' => ∃ v, e = .returned v ∧ Is w' w.heap.size v (frs P us P.k) ∧ Below w.heap.size w w' := by
  obtain ⟨ga, b, cap, G, bp, L, tk, cn, g1, g2, g3⟩ := h.me
  have hP := h.ok
  have C1 : Hid (Calls _ _ _ _ _) := made_p g1
  have hc1 := g1.c1
  have HP1 : Hid (∀ W, Below w.heap.size w W → Pp W P.k p ga b cap G bp P L tk us cn) := fun W hW => g1.below hW
  have CF : Hid (∀ W, Below w.heap.size w W → ∀ i, i < P.k → Calls Tryz.prog 49 #[.pointer (some ⟨bp i, 0, none⟩)] W fun e w' => e = .returned (.int .i64 (fre P us i : Nat)) ∧ w' = W) := fun W hW i hi => by
    have := Free_any ((g1.below hW).bu i hi) (st_len (g2.st i hi) hP.N2)
    rw [g2.fr hi] at this
    exact this
  have HF : Hid (∀ i, i < P.k → P.f i < 16) := fun i hi => Nat.lt_of_lt_of_le (hP.fC i hi) hP.C2
  have hk2 := hP.k2
  obtain ⟨i0, hi0, hz0, hz1, hz2⟩ := info_parts B.Tryz.infoI
  clear h g1 g2 g3
  go_enter Tryz.func14, Tryz.ntmps14
  go_wp2_with (go_at_call 44; refine C1.out.mono ?_; rintro e w' ⟨rfl, h⟩; obtain rfl := h.symm)
  go_loopw [3, 14] (fun v z wr => ∃ (j : Nat) (vv : Value), vv = v ∧ j ≤ P.k ∧ z = .int .i64 j ∧ Is wr w.heap.size v (frs P us j) ∧ Below w.heap.size w wr) (fun _ z _ => P.k - (iv z).toNat)
  case atStart => exact ⟨0, _, rfl, by omega, rfl, Is.nil _ _, Below.refl _ _⟩
  case round =>
    obtain ⟨j, v, hvv, hj, rfl, hI, hW⟩ := hrel
    subst hvv
    have HI : Hid (Is wr w.heap.size v (frs P us j)) := hI
    have HW : Hid (Below w.heap.size w wr) := hW
    clear hI hW
    by_cases hlt : j < P.k
    · have hq := HP1.out wr HW.out
      have hcol := hq.col hlt
      have hcb := hq.cb j hlt
      have hf := HF.out j hlt
      have CF2 : Hid (Calls _ _ _ _ _) := CF.out wr HW.out j hlt
      have hsz := HW.out.size
      have HFS : Hid (frs P us (j + 1) = frs P us j ++ [(fre P us j : Int)]) := frs_succ P us j
      have hlen := frs_len P us j
      clear hq
      generalize P.f j = f at *
      have hjI : (j : Int) < (P.k : Int) := by omega
      have i4 : (0 : Int) ≤ (f : Int) := by omega
      have i5 : (f : Int) < 16 := by omega
      go_wp2_with (first | (go_at_call 49; refine CF2.out.mono ?_; rintro e w' ⟨rfl, h⟩; obtain rfl := h.symm) | (at_builtin; refine wpList_append_own _ rfl (.tmp 18) (.tmp 26) 25 rfl w.heap.size 3 i0 _ 1 8 Tryz.underlying25 hi0 hz0 hz1 hz2 rfl (by decide) _ (frs P us j).length _ rfl (HI.out.alloc _) ⟨wr.heap.size, 0, none⟩ 1 1 [.int .i64 (fre P us j : Nat)] rfl rfl (cell_one_new _ _ _) (by intro u hu; simp at hu; subst hu; rfl) (by unfold maxLen; omega) (by omega) (by simp; omega) ?_; intro v2 w2 o2 gr2 nil2))
      go_roundw
      case rel => exact ⟨j + 1, _, rfl, by omega, by go_num, by rw [HFS.out]; exact is_snoc o2, (HW.out.alloc hsz _).grown gr2 (by simp; omega) (fun t ht => (HI.out.lt t ht).1)⟩
      case measure => simp [iv]; omega
    · obtain rfl : j = P.k := by omega
      go_wp2
      go_ret
      exact ⟨_, rfl, HI.out, HW.out⟩
theorem cN_give {P : Par} (hP : P.Ok) {us : Us} {i a u : Nat} (hi : i < P.k) (ha : a < P.N) (hu : us (fm P i a) = some u) (h1 : 1 ≤ u) : 1 ≤ cN P us u ∧ ∀ v, put (put (cN P us) u (cN P us u - 1)) 0 (cN P us 0 + 1) v = cN P (pt us (fm P i a) none) v := by
  have hlt := fm_lt hP hi ha
  have h2 := sf_one (us := pt us (fm P i a) none) (us' := us) (i := i) (d := 1) (fre_give hP hi ha hu).symm hi (fun m hm hne => (fre_other hP hi hm hne _).symm)
  have h0 : cN P us 0 = sf P us P.k := rfl
  have hcu : cN P us u = cU us u 4096 := if_neg (by omega)
  have hc := cU_give hu u hlt
  rw [if_pos rfl] at hc
  refine ⟨by omega, fun v => ?_⟩
  by_cases e : v = 0
  · subst e
    rw [put_same, h0]
    show sf P us P.k + 1 = sf P _ P.k
    omega
  · rw [put_other _ _ _ _ e]
    have hv : cN P (pt us (fm P i a) none) v = cU (pt us (fm P i a) none) v 4096 := if_neg e
    rw [hv]
    have hcv := cU_give hu v hlt
    by_cases e2 : v = u
    · subst e2
      rw [put_same]
      omega
    · rw [put_other _ _ _ _ e2]
      rw [if_neg e2] at hcv
      have : cN P us v = cU us v 4096 := if_neg e
      omega
theorem Pq.give {P : Par} (hP : P.Ok) {us : Us} {L : Nat → Nat → List Nat} {tk : Nat → Nat → Option Nat} {cn : Nat → Nat} (h : Pq P us L tk cn) {i a u J : Nat} (hi : i < P.k) (ha : a < P.N) (hu : us (fm P i a) = some u) (h2 : 2 ≤ u) (ht : Top (L i) 0 a J) :
    Pq P (pt us (fm P i a) none) (put L i (gvE (L i) 0 a J)) (put tk i (pt (tk i) a none)) (put (put cn u (cn u - 1)) 0 (cn 0 + 1)) := by
  have s1 := ((h.st i hi).give (h.t0 i a u hi ha hu h2) ht).1
  rw [Nat.pow_zero, Nat.div_one] at s1
  have hc := cN_give hP hi ha hu (by omega)
  have ec : cn = cN P us := funext h.cn
  refine ⟨fun j hj => ?_, fun j x v hj hx hv h2 => ?_, fun v => ?_⟩
  · by_cases e : j = i
    · subst e
      rw [put_same, put_same, opn_back hP hj ha]
      exact s1
    · rw [put_other _ _ _ _ e, put_other _ _ _ _ e, opn_other hP hi hj e]
      exact h.st j hj
  · by_cases e : j = i
    · subst e
      rw [put_same]
      by_cases e2 : x = a
      · subst e2
        simp [pt] at hv
      · have hne : fm P j x ≠ fm P j a := fun q => e2 (fm_inj hP hj hj q).2
        have hv' : us (fm P j x) = some v := by simpa [pt, hne] using hv
        simp only [pt, e2, if_false]
        exact h.t0 j x v hj hx hv' h2
    · rw [put_other _ _ _ _ e]
      have hne : fm P j x ≠ fm P i a := fun q => e (fm_inj hP hj hi q).1
      have hv' : us (fm P j x) = some v := by simpa [pt, hne] using hv
      exact h.t0 j x v hj hx hv' h2
  · rw [ec]
    exact hc.2 v
theorem Give_none {w : World} {F : Nat → Prop} {p : Nat} {P : Par} {us : Us} (h : Po w F p P us) (x : Int) (h0 : -9223372036854775808 ≤ x) (h1 : x ≤ 9223372036854775807) (hx : ∀ g : Nat, x = g → us g = none) : Calls Tryz.prog 56 #[.pointer (some ⟨p, 0, none⟩), .int .i64 x] w fun e w' => e = .returned (.int .i64 91) ∧ w' = w := by
  obtain ⟨ga, b, cap, G, bp, L, tk, cn, g1, g2, g3⟩ := h.me
  have C1 : Hid (Calls _ _ _ _ _) := made_p g1
  have hcm := g1.cm
  have hlk := g1.mp.look_none h0 h1 hx
  clear h g1 g2 g3 h0 h1 hx
  go_enter Tryz.func56, Tryz.ntmps56
  go_wp2_with (go_at_call 44; refine C1.out.mono ?_; rintro e w' ⟨rfl, h⟩; obtain rfl := h.symm)
  go_ret
  exact ⟨rfl, rfl⟩
theorem wpList_delete_u {w : World} {ops : Array Oper} {rest : List Oper} {o : Oper} {a : Act} {Q : Exit → Act → World → Prop} {R : World → Prop} (hgd : o.guard = none) (s x : Operand)
    (ho : o.op = .call { callee := .builtin .delete, args := #[s, x], argTypes := #[67, 3] }) (vs vx : Value) (hs : a.eval s = vs) (hx : a.eval x = vx)
    (hr : ∃ w', (Builtin.delete_ #[67, 3] o.type #[vs, vx]).run Tryz.prog w = .ok (.tuple #[]) w' ∧ R w') (h : ∀ w', R w' → wpList Tryz.prog ops Q rest (a.put o.dst (.tuple #[])) w') : wpList Tryz.prog ops Q (o :: rest) a w := by
  refine wpList_plain hgd fun K hK => ?_
  obtain ⟨w', hr, hR⟩ := hr
  unfold Oper.wp
  simp [execOp, ho, resolve, invoke, builtin, hs, hx, hr, Result.andThen]
  exact hK _ _ (h w' hR)
set_option maxHeartbeats 2000000 in
theorem Give_p {w : World} {F : Nat → Prop} {p : Nat} {P : Par} {us : Us} (h : Po w F p P us) (g u : Nat) (hg : us g = some u) (h2 : 2 ≤ u) :
    Calls Tryz.prog 56 #[.pointer (some ⟨p, 0, none⟩), .int .i64 g] w fun e w' => ∃ F', e = .returned (.int .i64 0) ∧ Po w' F' p P (pt us g none) ∧ Kp F F' w w' := by
  obtain ⟨ga, b, cap, G, bp, L, tk, cn, g1, g2, g3⟩ := h.me
  have hP := h.ok
  obtain ⟨_, h6, i, x, hi, hx, rfl⟩ := h.va.us1 g u hg
  have hlt := fm_lt hP hi hx
  have hN2 := hP.N2
  have hC1 := hP.C1
  have hC2 := hP.C2
  have hlen := fun i hi => st_len (g2.st i hi) hP.N2
  have hf16 : ∀ i, i < P.k → P.f i < 16 := fun i hi => Nat.lt_of_lt_of_le (hP.fC i hi) hP.C2
  have hcn := cN_give hP hi hx hg (by omega)
  have C1 : Hid (Calls Tryz.prog 44 #[.pointer (some ⟨p, 0, none⟩)] w _) := made_p g1
  have hcm := g1.cm
  have hlk := g1.mp.look_some (Nat.le_refl _) hg
  have C2 : Hid (Calls Tryz.prog 87 #[.int .i64 (fm P i x : Nat), .int .i64 P.C] w (K.Two (P.f i) 0 w)) := by
    have := K.Of_ok (fm P i x : Nat) P.C (by omega) (by omega) (by omega) (by omega) w
    rw [show ((fm P i x : Nat) : Int) % (P.C : Int) = (P.f i : Int) by rw [← fm_mod (hP.fC i hi) x]; simp] at this
    exact this
  have C3 : Hid (Calls Tryz.prog 88 #[.int .i64 (fm P i x : Nat), .int .i64 P.C] w (K.Two x 0 w)) := by
    have := K.Index_ok (fm P i x : Nat) P.C (by omega) (by omega) (by omega) (by omega) w
    rw [show ((fm P i x : Nat) : Int) / (P.C : Int) = (x : Int) by rw [← Int.natCast_ediv, fm_div (hP.fC i hi)]] at this
    exact this
  have CG : Hid (∀ W, Below w.heap.size w W → Calls Tryz.prog 89 #[.pointer (some ⟨bp i, 0, none⟩), .int .i64 x, .int .i64 0] W fun e w' => e = .returned (.int .i64 0) ∧ Jnd W (G i) (bp i) (L i) (pt (tk i) x none) 0 x w') := fun W hW =>
    B.Give_ok ((g1.below hW).bu i hi) (hlen i hi) (fun j hj => ((g2.st i hi).fit j (by omega)).1) x 0 (by omega) (by omega) (by rw [Nat.pow_zero]; exact Nat.mod_one x) (g2.t0 i x u hi hx hg h2)
  have HP1 : Hid (Pp w P.k p ga b cap G bp P L tk us cn) := g1
  have HPost : Hid (∀ W G' J, Top (L i) 0 x J → Pp W P.k p ga b cap (put G i G') bp P (put L i (gvE (L i) 0 x J)) (put tk i (pt (tk i) x none)) (pt us (fm P i x) none) (put (put cn u (cn u - 1)) 0 (cn 0 + 1)) → Kp F (foot P.k p ga b (put G i G')) w W → ∃ F', Po W F' p P (pt us (fm P i x) none) ∧ Kp F F' w W) := fun W G' J hJ hW hK =>
    ⟨_, ⟨hP, h.va.give hP hi hx hg h2, ga, b, cap, _, bp, _, _, _, hW, g2.give hP hi hx hg h2 hJ, fun _ => Iff.rfl⟩, hK⟩
  have HFT : Hid (∀ x, F x ↔ foot P.k p ga b G x) := g3
  have h0 := g1.c0
  have hcb := g1.cb i hi
  have hfb := hf16 i hi
  have HF : Hid (∀ i, i < P.k → P.f i < 16) := hf16
  have HI : Hid (i < P.k) := hi
  have HC : Hid (1 ≤ cn u) := by have := hcn.1; rw [← g2.cn] at this; exact this
  have hm0 : cn 0 ≤ 65536 := by rw [g2.cn]; exact cN_le hP us 0
  have hmu : cn u ≤ 65536 := by rw [g2.cn]; exact cN_le hP us u
  clear h g1 g2 g3 hcn hf16 hlen hg hi hN2 hP
  generalize fm P i x = g at *
  generalize hfi : P.f i = f at *
  have i1 : (0 : Int) ≤ (u : Int) := by omega
  have i2 : (u : Int) < 7 := by omega
  have i4 : (0 : Int) ≤ (f : Int) := by omega
  have i5 : (f : Int) < 16 := by omega
  have i6 : ¬ ((u : Int) = 1) := by omega
  go_enter Tryz.func56, Tryz.ntmps56
  go_wp2_with (first | (go_at_call 44; refine C1.out.mono ?_; rintro e w' ⟨rfl, h⟩; obtain rfl := h.symm) | (go_at_call 87; refine C2.out.mono ?_; rintro e w' ⟨rfl, h⟩; obtain rfl := h.symm) | (go_at_call 88; refine C3.out.mono ?_; rintro e w' ⟨rfl, h⟩; obtain rfl := h.symm))
  refine (CG.out _ (Below.refl _ _)).mono ?_
  rintro e w1 ⟨rfl, J, hJ, G1, hB1, hK1⟩
  have HP2 : Hid (Pp w1 P.k p ga b cap (put G i G1) bp P (put L i (gvE (L i) 0 x J)) (put tk i (pt (tk i) x none)) us cn) := HP1.out.buddy i HI.out hK1 hB1
  have HK2 : Hid (Kp F (foot P.k p ga b (put G i G1)) _ w1) := Kp.of_foot (foot_kp HI.out hK1) HFT.out (fun _ => Iff.rfl)
  have HJ : Hid (Top (L i) 0 x J) := hJ
  have HDE : Hid (∀ ty, ∃ w', (Builtin.delete_ #[67, 3] ty #[.map (some b), .int .i64 g]).run Tryz.prog w1 = .ok (.tuple #[]) w' ∧ (Mu w' b 4096 (pt us g none) ∧ w1.grownBy w' (some b))) := fun ty => HP2.out.mp.drop g (by omega) ty
  have hcm2 := HP2.out.cm
  clear hJ hB1 hK1 C1 C2 C3 CG HP1 hcm hlk h0 hcb
  go_wp2_with (at_delete; refine wpList_delete_u rfl (.tmp 58) (.tmp 59) rfl _ _ rfl rfl (HDE.out _) ?_; rintro w2 ⟨hM2, hG2⟩)
  have HP3 : Hid (Pp w2 P.k p ga b cap (put G i G1) bp P (put L i (gvE (L i) 0 x J)) (put tk i (pt (tk i) x none)) (pt us g none) cn) := HP2.out.mapped hG2 hM2
  have HK3 : Hid (Kp F (foot P.k p ga b (put G i G1)) _ w2) := HK2.out.trans (Kp.of_grown hG2 (by rintro g e; injection e with e; exact Or.inr (Or.inr (Or.inl e.symm))) (fun _ h => Or.inl h))
  have c1 := HP3.out.cc u (by omega)
  have z1 := HP3.out.fz (27 + u)
  obtain ⟨d, hd⟩ : ∃ d, cn u = d + 1 := ⟨cn u - 1, by have := HC.out; omega⟩
  have HD : Hid (cn u = d + 1) := hd
  rw [hd] at c1 hmu
  clear hd hM2 hG2 HP2 HK2 HDE hcm2
  have hdw : IntKind.i64.wrap (d : Int) = (d : Int) := IntWalk.i64_in _ (by omega)
  go_wp2
  go_region
  have HP4 : Hid (Pp (w2.setCell ⟨p, 27 + u, none⟩ (.int .i64 (d : Int))).drew P.k p ga b cap (put G i G1) bp P (put L i (gvE (L i) 0 x J)) (put tk i (pt (tk i) x none)) (pt us g none) (put cn u (cn u - 1))) := by
    have := HP3.out.count u (by omega) (cn u - 1) HF.out
    rw [HD.out, show d + 1 - 1 = d by omega] at this
    rw [HD.out, show d + 1 - 1 = d by omega]
    exact this.of_eq (Nat.le_refl _) (fun _ _ => rfl)
  have HK4 : Hid (Kp F (foot P.k p ga b (put G i G1)) _ (w2.setCell ⟨p, 27 + u, none⟩ (.int .i64 (d : Int))).drew) := HK3.out.trans (Kp.of_grown ((grown_setCell' _ _ _ _).trans (grown_drew _ _)) (by rintro g e; injection e with e; exact Or.inl e.symm) (fun _ h => Or.inl h))
  clear c1 z1 HP3 HK3
  generalize (w2.setCell ⟨p, 27 + u, none⟩ (.int .i64 (d : Int))).drew = w3 at *
  have c2 := HP4.out.cc 0 (by omega)
  have z2 := HP4.out.fz (27 + 0)
  rw [put_other _ _ _ _ (show (0 : Nat) ≠ u by omega)] at c2
  go_wp2
  go_region
  have HP5 : Hid (Pp (w3.setCell ⟨p, 27, none⟩ (.int .i64 ((cn 0 : Int) + 1))).drew P.k p ga b cap (put G i G1) bp P (put L i (gvE (L i) 0 x J)) (put tk i (pt (tk i) x none)) (pt us g none) (put (put cn u (cn u - 1)) 0 (cn 0 + 1))) :=
    (HP4.out.count 0 (by omega) (cn 0 + 1) HF.out).of_eq (Nat.le_refl _) (fun _ _ => rfl)
  have HK5 : Hid (Kp F (foot P.k p ga b (put G i G1)) _ (w3.setCell ⟨p, 27, none⟩ (.int .i64 ((cn 0 : Int) + 1))).drew) := HK4.out.trans (Kp.of_grown ((grown_setCell' _ _ _ _).trans (grown_drew _ _)) (by rintro g e; injection e with e; exact Or.inl e.symm) (fun _ h => Or.inl h))
  clear c2 z2 HP4 HK4
  have HF5 : Hid (∃ F', Po (w3.setCell ⟨p, 27, none⟩ (.int .i64 ((cn 0 : Int) + 1))).drew F' p P (pt us g none) ∧ Kp F F' _ (w3.setCell ⟨p, 27, none⟩ (.int .i64 ((cn 0 : Int) + 1))).drew) := HPost.out _ _ _ HJ.out HP5.out HK5.out
  clear HP5 HK5 HPost
  generalize (w3.setCell ⟨p, 27, none⟩ (.int .i64 ((cn 0 : Int) + 1))).drew = w4 at *
  go_wp2
  go_ret
  obtain ⟨F', t1, t2⟩ := HF5.out
  exact ⟨F', rfl, t1, t2⟩
end Go.Proofs.YtdempgjhjcjklaaGreat.P
namespace Go.Proofs.YtdempgjhjcjklaaGreat.P
open B Go.ChangeShapes Go.WideShapes Go.ChangeAt Go.RowKit
set_option linter.unusedVariables false
set_option maxRecDepth 8192

def imgL (P : Par) (a m : Nat) : List Int := (List.range m).map fun t => (fm P 0 (a + t) : Int)
theorem imgL_len (P : Par) (a m : Nat) : (imgL P a m).length = m := by simp [imgL]
theorem imgL_succ (P : Par) (a m : Nat) : imgL P a (m + 1) = imgL P a m ++ [(fm P 0 (a + m) : Int)] := by simp [imgL, List.range_succ]
def cnm (cn : Nat → Nat) (m : Nat) : Nat → Nat := fun u => if u = 0 then cn 0 - m else if u = 1 then cn 1 + m else cn u
theorem cnm_zero (cn : Nat → Nat) (u : Nat) : cnm cn 0 u = cn u := by
  unfold cnm
  split
  · rename_i e; rw [e]; rfl
  · split
    · rename_i e; rw [e]; rfl
    · rfl
theorem cnm_succ (cn : Nat → Nat) (m : Nat) : put (put (cnm cn m) 1 (cnm cn m 1 + 1)) 0 (cnm cn m 0 - 1) = cnm cn (m + 1) := by
  funext u
  unfold put cnm
  by_cases e : u = 0
  · subst e
    simp
    omega
  · by_cases e1 : u = 1
    · subst e1
      simp
      omega
    · simp [e, e1]
theorem Pq.image {P : Par} (hP : P.Ok) {us : Us} {L : Nat → Nat → List Nat} {tk : Nat → Nat → Option Nat} {cn : Nat → Nat} (h : Pq P us L tk cn) {a k : Nat} {r : List Nat} (ho : P.o ≤ k) (hk : k ≤ 6) (he : ∀ j, P.o ≤ j → j < k → L 0 j = []) (hL : L 0 k = a :: r) :
    Pq P (mkI P us a (2 ^ P.o)) (put L 0 (tkL (L 0) P.o k a)) (put tk 0 (pt (tk 0) a (some P.o))) (cnm cn (2 ^ P.o)) ∧ Room P us a (2 ^ P.o) ∧ 2 ^ P.o ≤ cn 0 := by
  have hk0 : 0 < P.k := hP.k1
  obtain ⟨s1, s2, s3, s4, s5, s6⟩ := (h.st 0 hk0).take ho hk he hL
  have hr := room_of s2 s3
  have hsf := sf_one (us := us) (us' := mkI P us a (2 ^ P.o)) (fre_mk hP hr (Nat.le_refl _)) hk0 (fun m hm hne => fre_mk_other hP us a _ hm hne)
  have h0 : cn 0 = sf P us P.k := h.cn 0
  refine ⟨⟨fun j hj => ?_, fun j x v hj hx hv h2 => ?_, fun v => ?_⟩, hr, by omega⟩
  · by_cases e : j = 0
    · subst e
      rw [put_same, put_same, opn_image hP us s3]
      exact s1
    · rw [put_other _ _ _ _ e, put_other _ _ _ _ e, opn_mk_other hP us a _ hj e]
      exact h.st j hj
  · have hx2 : us (fm P j x) = some v := by
      by_cases q : ∃ t, t < 2 ^ P.o ∧ fm P j x = fm P 0 (a + t)
      · obtain ⟨t, q1, q2⟩ := q
        rw [q2, mkI_in us a q1] at hv
        cases hv
        omega
      · rw [mkI_out us a _ (fun t ht z => q ⟨t, ht, z⟩)] at hv
        exact hv
    have ht := h.t0 j x v hj hx hx2 h2
    by_cases e : j = 0
    · subst e
      rw [put_same]
      unfold pt
      rw [if_neg]
      · exact ht
      · intro q
        subst q
        rw [s5] at ht
        cases ht
    · rw [put_other _ _ _ _ e]
      exact ht
  · unfold cnm cN
    by_cases e : v = 0
    · rw [if_pos e, if_pos e, h0]
      omega
    · rw [if_neg e, if_neg e, cU_mk hP hr v (Nat.le_refl _)]
      by_cases e1 : v = 1
      · subst e1
        rw [if_pos rfl, if_pos rfl, h.cn 1]
        rfl
      · rw [if_neg e1, if_neg e1, Nat.add_zero, h.cn v]
        exact if_neg e
theorem Kp.more {A : Nat → Prop} {W w w' : World} {row : Option Nat} (h : Kp A A W w) (g : w.grownBy w' row) (hr : ∀ k, row = some k → W.heap.size ≤ k) : Kp A A W w' :=
  ⟨g.os.trans h.os, g.tape.trans h.tape, g.output.trans h.output, Nat.le_trans h.size g.size, fun k hk hn => (g.block k (Nat.lt_of_lt_of_le hk h.size) (fun e => by have := hr k e.symm; omega)).trans (h.block k hk hn), fun _ h => Or.inl h⟩
theorem pow_o {o : Nat} (h : o ≤ 3) : 1 ≤ 2 ^ o ∧ 2 ^ o ≤ 8 ∧ IntKind.i64.wrap ((2 : Int) ^ o) = ((2 ^ o : Nat) : Int) := by
  rcases (show o = 0 ∨ o = 1 ∨ o = 2 ∨ o = 3 by omega) with rfl | rfl | rfl | rfl <;> exact ⟨by decide, by decide, rfl⟩
set_option maxHeartbeats 2000000 in
theorem Image_p {w : World} {F : Nat → Prop} {p : Nat} {P : Par} {us : Us} (h : Po w F p P us) (h1 : cU us 1 4096 = 0) (a0 : Nat) (hx : Nx (opn P us 0) P.o a0) :
    Calls Tryz.prog 11 #[.pointer (some ⟨p, 0, none⟩)] w fun e w' => ∃ v F', e = .returned (.tuple #[v, .int .i64 0]) ∧ Is w' w.heap.size v (imgL P a0 (2 ^ P.o)) ∧ (∀ k, v.ownBlock = some k → ¬ F' k) ∧ Po w' F' p P (mkI P us a0 (2 ^ P.o)) ∧ Kp F F' w w' := by
  obtain ⟨ga, b, cap, G, bp, L, tk, cn, g1, g2, g3⟩ := h.me
  have hP := h.ok
  have hk1 := hP.k1
  have ho3 := hP.o3
  rcases take_case (L 0) P.o with q | ⟨k, a, r, q1, q2, q3, q4⟩
  · exact absurd hx (st_no_nx (g2.st 0 (by omega)) q a0)
  obtain rfl : a0 = a := hx.uniq (st_nx (g2.st 0 (by omega)) q1 q2 q3 q4)
  obtain ⟨hq, hr, hle⟩ := g2.image hP q1 q2 q3 q4
  have hrle := hr.le
  have hN2 := hP.N2
  have C1 : Hid (Calls Tryz.prog 44 #[.pointer (some ⟨p, 0, none⟩)] w _) := made_p g1
  have c1 := g1.cc 1 (by omega)
  have e1 : cn 1 = cU us 1 4096 := by rw [g2.cn 1]; exact if_neg (by omega)
  rw [e1, h1] at c1
  have c2 := g1.c1
  have c3 := g1.col (i := 0) (by omega)
  have c4 := g1.cb 0 (by omega)
  have c5 := g1.co
  have hf : P.f 0 < 16 := Nat.lt_of_lt_of_le (hP.fC 0 (by omega)) hP.C2
  obtain ⟨p1, p2, p3⟩ := pow_o ho3
  have CT : Hid (∀ W, Below w.heap.size w W → Calls Tryz.prog 45 #[.pointer (some ⟨bp 0, 0, none⟩), .int .i64 P.o] W fun e w' => e = .returned (.tuple #[.int .i64 (a0 : Nat), .int .i64 0]) ∧ ∃ G', Bu w' G' (bp 0) (tkL (L 0) P.o k a0) (pt (tk 0) a0 (some P.o)) ∧ Kp (G 0) G' W w') := fun W hW =>
    B.Take_ok ((g1.below hW).bu 0 (by omega)) (st_len (g2.st 0 (by omega)) hP.N2) P.o k a0 r q1 q2 q3 q4 (by omega)
  have HP1 : Hid (∀ W, Below w.heap.size w W → Pp W P.k p ga b cap G bp P L tk us cn) := fun W hW => g1.below hW
  have HPost : Hid (∀ W G', Pp W P.k p ga b cap (put G 0 G') bp P (put L 0 (tkL (L 0) P.o k a0)) (put tk 0 (pt (tk 0) a0 (some P.o))) (mkI P us a0 (2 ^ P.o)) (cnm cn (2 ^ P.o)) → Po W (foot P.k p ga b (put G 0 G')) p P (mkI P us a0 (2 ^ P.o))) := fun W G' hW =>
    ⟨hP, h.va.image hP h1 hr, ga, b, cap, _, bp, _, _, _, hW, hq, fun _ => Iff.rfl⟩
  have CM : Hid (∀ W G' m, m < 2 ^ P.o → Pp W P.k p ga b cap (put G 0 G') bp P (put L 0 (tkL (L 0) P.o k a0)) (put tk 0 (pt (tk 0) a0 (some P.o))) (mkI P us a0 m) (cnm cn m) → Calls Tryz.prog 46 #[.pointer (some ⟨p, 0, none⟩), .int .i64 (P.f 0), .int .i64 (a0 + m : Nat), .int .u8 1] W fun e w' => e = .returned (.int .i64 (fm P 0 (a0 + m) : Nat)) ∧ Pp w' P.k p ga b cap (put G 0 G') bp P (put L 0 (tkL (L 0) P.o k a0)) (put tk 0 (pt (tk 0) a0 (some P.o))) (mkI P us a0 (m + 1)) (cnm cn (m + 1)) ∧ Kp (fun k => k = p ∨ k = b) (fun k => k = p ∨ k = b) W w') := fun W G' m hm hW => by
    have := mark_p hW hP 0 (a0 + m) 1 (by omega) (by omega) (by omega) (by omega) (by show 1 ≤ cnm cn m 0; unfold cnm; simp; omega) (fun v => by
      have h2 := cN_le hP us v
      have h3 := cN_le hP us 0
      have h4 := cN_le hP us 1
      rw [← g2.cn] at h2 h3 h4
      unfold cnm
      split
      · omega
      · split <;> omega)
    rw [cnm_succ] at this
    exact this
  have HFT : Hid (∀ x, F x ↔ foot P.k p ga b G x) := g3
  obtain ⟨i0, hi0, hz0, hz1, hz2⟩ := info_parts B.Tryz.infoI
  have HI : Hid (0 < P.k) := hk1
  have HC0 : Hid (∀ W G', Pp W P.k p ga b cap (put G 0 G') bp P (put L 0 (tkL (L 0) P.o k a0)) (put tk 0 (pt (tk 0) a0 (some P.o))) us cn → Pp W P.k p ga b cap (put G 0 G') bp P (put L 0 (tkL (L 0) P.o k a0)) (put tk 0 (pt (tk 0) a0 (some P.o))) (mkI P us a0 0) (cnm cn 0)) := fun W G' hW => by
    rw [show cnm cn 0 = cn from funext (cnm_zero cn)]
    exact hW
  clear h g1 g2 g3 e1 hq q1 q2 q3 q4 hr hx h1 hle
  generalize 2 ^ P.o = S at *
  obtain ⟨f, hfe⟩ : ∃ f, P.f 0 = f := ⟨_, rfl⟩
  have HFE : Hid (P.f 0 = f) := hfe
  rw [hfe] at hf c3 c4 CM
  clear hfe
  have i4 : (0 : Int) ≤ (f : Int) := by omega
  have i5 : (f : Int) < 16 := by omega
  have i6 : (0 : Int) < (P.k : Int) := by omega
  go_enter Tryz.func11, Tryz.ntmps11
  go_wp2_with (go_at_call 44; refine C1.out.mono ?_; rintro e w' ⟨rfl, h⟩; obtain rfl := h.symm)
  go_region_held3 (fun W => W.cell? ⟨p, 2 + f, none⟩ = some (.pointer (some ⟨bp 0, 0, none⟩)) ∧ W.cell? ⟨p, 18, none⟩ = some (.int .i64 P.o))
    (first | exact ⟨c4, c5⟩ | exact HS1.out)
    ((go_at_call 45; refine (CT.out _ (by first | exact (Below.refl _ _).drew | exact Below.refl _ _)).mono ?_; rintro e w1 ⟨rfl, G1, hB1, hK1⟩; have HP2 : Hid (Pp w1 P.k p ga b cap (put G 0 G1) bp P (put L 0 (tkL (L 0) P.o k a0)) (put tk 0 (pt (tk 0) a0 (some P.o))) us cn) := (HP1.out _ (by first | exact (Below.refl _ _).drew | exact Below.refl _ _)).buddy 0 HI.out hK1 hB1; have HS1 : Hid (w1.cell? ⟨p, 2 + f, none⟩ = some (.pointer (some ⟨bp 0, 0, none⟩)) ∧ w1.cell? ⟨p, 18, none⟩ = some (.int .i64 P.o)) := ⟨by rw [← HFE.out]; exact HP2.out.cb 0 HI.out, HP2.out.co⟩; have HK2 : Hid (Kp F (foot P.k p ga b (put G 0 G1)) _ w1) := (below_kp (by first | exact (Below.refl _ _).drew | exact Below.refl _ _)).trans (Kp.of_foot (foot_kp HI.out hK1) HFT.out (fun _ => Iff.rfl)); clear hB1 hK1))
  clear HS1 c1 c2 c3 c4 c5 CT HP1 C1
  have c5 := HP2.out.co
  have HPW : Hid (p < w1.heap.size ∧ b < w1.heap.size) := ⟨HP2.out.lt, HP2.out.mp.lt⟩
  have HC1 := HC0.out w1 G1 HP2.out
  have HP3 : Hid (Pp w1 P.k p ga b cap (put G 0 G1) bp P (put L 0 (tkL (L 0) P.o k a0)) (put tk 0 (pt (tk 0) a0 (some P.o))) (mkI P us a0 0) (cnm cn 0)) := HC1
  have HFL : Hid (∀ x, foot P.k p ga b (put G 0 G1) x → x < w1.heap.size) := HP2.out.flt
  clear HC1 HC0 HP2
  go_wp2
  go_loopw [7, 45] (fun v z wr => ∃ (m : Nat) (vv : Value), vv = v ∧ m ≤ S ∧ z = .int .i64 m ∧ Is wr w1.heap.size v (imgL P a0 m) ∧ Pp wr P.k p ga b cap (put G 0 G1) bp P (put L 0 (tkL (L 0) P.o k a0)) (put tk 0 (pt (tk 0) a0 (some P.o))) (mkI P us a0 m) (cnm cn m) ∧ Kp (fun k => k = p ∨ k = b) (fun k => k = p ∨ k = b) w1 wr) (fun _ z _ => S - (iv z).toNat)
  case atStart => exact ⟨0, _, rfl, by omega, rfl, Is.nil _ _, HP3.out, Kp.refl _ _⟩
  case round =>
    obtain ⟨m, v, hvv, hm, rfl, hI, hq, hK⟩ := hrel
    subst hvv
    have HI2 : Hid (Is wr w1.heap.size v (imgL P a0 m)) := hI
    have HK3 : Hid (Kp (fun k => k = p ∨ k = b) (fun k => k = p ∨ k = b) w1 wr) := hK
    have HP4 : Hid (Pp wr P.k p ga b cap (put G 0 G1) bp P (put L 0 (tkL (L 0) P.o k a0)) (put tk 0 (pt (tk 0) a0 (some P.o))) (mkI P us a0 m) (cnm cn m)) := hq
    clear hI hq hK
    by_cases hlt : m < S
    · have CM2 : Hid (Calls _ _ _ _ _) := CM.out wr G1 m hlt HP4.out
      have HFS : Hid (imgL P a0 (m + 1) = imgL P a0 m ++ [(fm P 0 (a0 + m) : Int)]) := imgL_succ P a0 m
      have hlen := imgL_len P a0 m
      have hjI : (m : Int) < (S : Int) := by omega
      have hsum : IntKind.i64.wrap ((a0 : Int) + (m : Int)) = ((a0 + m : Nat) : Int) := by rw [show ((a0 : Int) + (m : Int)) = ((a0 + m : Nat) : Int) by simp]; exact IntWalk.i64_in _ (by omega)
      go_wp2_with fail
      refine CM2.out.mono ?_
      rintro e w2 ⟨rfl, hP5, hK5⟩
      have HI3 : Hid (Is w2 w1.heap.size v (imgL P a0 m)) := HI2.out.of_eq (fun c hc => hK5.block c (HI2.out.lt c hc).2 (by
        have h1 := (HI2.out.lt c hc).1
        have h2 := HPW.out
        rintro (q | q) <;> omega))
      have HK5 : Hid (Kp (fun k => k = p ∨ k = b) (fun k => k = p ∨ k = b) w1 w2) := HK3.out.trans hK5
      have HP5 : Hid (Pp w2 P.k p ga b cap (put G 0 G1) bp P (put L 0 (tkL (L 0) P.o k a0)) (put tk 0 (pt (tk 0) a0 (some P.o))) (mkI P us a0 (m + 1)) (cnm cn (m + 1))) := hP5
      have hsz := HK5.out.size
      clear hP5 hK5 CM2 HI2 HK3 HP4
      go_wp2_with (at_builtin; refine wpList_append_own _ rfl (.tmp 48) (.tmp 55) 25 rfl w1.heap.size 3 i0 _ 1 8 Tryz.underlying25 hi0 hz0 hz1 hz2 rfl (by decide) _ (imgL P a0 m).length _ rfl (HI3.out.alloc _) ⟨w2.heap.size, 0, none⟩ 1 1 [.int .i64 (fm P 0 (a0 + m) : Nat)] rfl rfl (cell_one_new _ _ _) (by intro u hu; simp at hu; subst hu; rfl) (by unfold maxLen; omega) (by omega) (by simp; omega) ?_; intro v2 w3 o2 gr2 nil2)
      go_roundw
      case rel =>
        have hg : w2.grownBy w3 v.ownBlock := (World.grownBy_alloc _ _ _).trans gr2
        refine ⟨m + 1, _, rfl, by omega, by go_num, by rw [HFS.out]; exact is_snoc o2, HP5.out.of_eq hg.size (fun x hx => hg.block x (Nat.lt_of_lt_of_le (HFL.out x hx) hsz) (fun e => ?_)), Kp.more HK5.out hg (fun t ht => (HI3.out.lt t ht).1)⟩
        have h1 := (HI3.out.lt x e.symm).1
        have h2 := HFL.out x hx
        omega
      case measure => simp [iv]; omega
    · obtain rfl : m = S := by omega
      have HF : Hid (Kp F (foot P.k p ga b (put G 0 G1)) _ wr) := HK2.out.trans (Kp.wide HK3.out (by rintro x (rfl | rfl); exact Or.inl rfl; exact Or.inr (Or.inr (Or.inl rfl))))
      go_wp2
      go_ret2
      refine ⟨_, _, rfl, HI2.out.less HK2.out.size, fun k hk hf => ?_, HPost.out _ _ HP4.out, HF.out⟩
      have h1 := (HI2.out.lt k hk).1
      have h2 := HFL.out k hf
      omega
end Go.Proofs.YtdempgjhjcjklaaGreat.P
