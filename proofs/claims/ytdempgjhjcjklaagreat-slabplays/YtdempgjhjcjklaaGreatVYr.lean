/- What the document's slab's Take gives back and leaves; no condition but those that each theorem names. -/
import Derived.Test.YtdempgjhjcjklaaGreatVYq
import Derived.Test.YtdempgjhjcjklaaGreatVXf
namespace Go.Proofs.YtdempgjhjcjklaaGreat.P
open B Go.ChangeShapes Go.WideShapes Go.ChangeAt Go.RowKit
set_option linter.unusedVariables false
set_option maxRecDepth 8192

theorem rTake_use {w : World} {F : Nat → Prop} {q : Nat} {P : Par} {us : Us} (h : Ro w F q P us) (u : Nat) (h2 : 2 ≤ u) (h6 : u ≤ 6) : Calls Tryz.prog 37 #[.pointer (some ⟨q, 0, none⟩), .int .u8 u] w fun x w' => ∃ (g e : Nat) (us' : Us), x = .returned (.tuple #[.int .i64 g, .int .i64 e]) ∧ Tko P us u g e us' ∧ Ro w' F q P us' ∧ Kp F F w w' := by
  by_cases hq : cU us u 4096 < P.q u
  · refine (rTake_p h u h2 h6 hq).mono ?_
    rintro x w' ⟨g, us', rfl, h1, h3, h4⟩
    exact ⟨g, 0, us', rfl, Or.inl ⟨rfl, h1, hq⟩, h3, h4⟩
  · refine (rTake_mem h u h2 h6 (by omega)).mono ?_
    rintro x w' ⟨rfl, h1⟩
    exact ⟨0, 4, us, rfl, Or.inr ⟨rfl, rfl, rfl, by omega⟩, h.below h1, ⟨h1.os, h1.tape, h1.output, h1.size, fun k hk _ => h1.block k hk, fun k hk => Or.inl hk⟩⟩
theorem fl_put {mk : Ms} {g y : Nat} (hf : ∀ x, mk x ≠ 0 → x < 4096) (hg : mk g ≠ 0) (hy : y ≠ 0) : fl (put mk g y) = fl mk := by
  refine (fl_of (fl_asc mk) (fun x hx => ?_) (fun x => ?_)).symm
  · by_cases e : x = g
    · rw [e]; exact hf g hg
    · rw [put_other _ _ _ _ e] at hx; exact hf x hx
  · rw [mem_fl]
    by_cases e : x = g
    · subst e; rw [put_same]; exact ⟨fun _ => hy, fun _ => ⟨hf x hg, hg⟩⟩
    · rw [put_other _ _ _ _ e]; exact ⟨fun z => z.2, fun z => ⟨hf x z, z⟩⟩
theorem fl_new {mk : Ms} {fs : List Nat} {f y : Nat} (hf : ∀ x, mk x ≠ 0 → x < 4096) (ha : fs.Pairwise (· < ·)) (hm : ∀ x, x ∈ fs ↔ x = f ∨ x ∈ fl mk) (hf4 : f < 4096) (hy : y ≠ 0) : fs = fl (put mk f y) := by
  refine fl_of ha (fun x hx => ?_) (fun x => ?_)
  · by_cases e : x = f
    · omega
    · rw [put_other _ _ _ _ e] at hx; exact hf x hx
  · rw [hm, mem_fl]
    by_cases e : x = f
    · subst e; rw [put_same]; exact ⟨fun _ => hy, fun _ => Or.inl rfl⟩
    · rw [put_other _ _ _ _ e]
      exact ⟨fun z => by rcases z with z | z; exact absurd z e; exact z.2, fun z => Or.inr ⟨hf x z, z⟩⟩
theorem kp_own {F G G' G'' : Nat → Prop} {w w1 w2 : World} (h : Kp (fun x => F x ∨ G x) (fun x => F x ∨ G' x) w w1) (k : Kp G' G'' w1 w2) : Kp (fun x => F x ∨ G x) (fun x => F x ∨ G'' x) w w2 :=
  h.trans ⟨k.os, k.tape, k.output, k.size, fun x hx hn => k.block x hx (fun z => hn (Or.inr z)), fun x hx => by
    rcases hx with z | z
    · exact Or.inl (Or.inl z)
    · rcases k.new x z with y | y
      · exact Or.inl (Or.inr y)
      · exact Or.inr y⟩
theorem kp_pool {F G : Nat → Prop} {w w1 : World} (k : Kp F F w w1) : Kp (fun x => F x ∨ G x) (fun x => F x ∨ G x) w w1 :=
  ⟨k.os, k.tape, k.output, k.size, fun x hx hn => k.block x hx (fun z => hn (Or.inl z)), fun x hx => Or.inl hx⟩
set_option maxHeartbeats 4000000 in
theorem rsTake_s {w : World} {F : Nat → Prop} {P : Par} {us : Us} {s q u : Nat} {vf vl : Value} {rb : Nat → Nat} {mk : Ms} (hr : Ro w F q P us) (h : Sr w s q u vf vl rb (fl mk) mk) (dis : ∀ x, sft s vf vl rb (fl mk) x → ¬ F x) (lk : Lk u us mk) : Calls Tryz.prog 34 #[.pointer (some ⟨s, 0, none⟩)] w fun x w' => ∃ (a e : Nat) (us' : Us) (mk' : Ms) (vf' vl' : Value) (rb' : Nat → Nat), x = .returned (.tuple #[.int .u64 a, .int .i64 e]) ∧ TkS P u us mk a e us' mk' ∧ Ro w' F q P us' ∧ Sr w' s q u vf' vl' rb' (fl mk') mk' ∧ (∀ x, sft s vf' vl' rb' (fl mk') x → ¬ F x) ∧ Kp (fun x => F x ∨ sft s vf vl rb (fl mk) x) (fun x => F x ∨ sft s vf' vl' rb' (fl mk') x) w w' := by
  have C1 : Hid (Calls _ _ _ _ _) := rsthere_s h
  have CF : Hid (Calls _ _ _ _ _) := rfree_s h
  have hu := h.u4
  have HF4 : Hid (∀ g, mk g ≠ 0 → g < 4096) := fun g hg => by
    by_cases e : g ∈ fl mk
    · exact (mem_fl.1 e).1
    · exact absurd (h.z g e) hg
  have HML : Hid (∀ g, mk g < 2 ^ pn u) := h.ml
  have HRO : Hid (Ro w F q P us) := hr
  have HS : Hid (Sr w s q u vf vl rb (fl mk) mk) := h
  have HDI : Hid (∀ x, sft s vf vl rb (fl mk) x → ¬ F x) := dis
  clear h hr dis
  go_enter Tryz.func34, Tryz.ntmps34
  go_wp2_with (go_at_call 69; refine C1.out.mono ?_; rintro e w' ⟨rfl, h⟩; obtain rfl := h.symm)
  refine CF.out.mono ?_
  rintro e w1 ⟨hw1, hcase⟩
  obtain rfl := hw1.symm
  clear hw1 C1 CF
  rcases hcase with ⟨i0, g0, k0, rfl, hfre0⟩ | ⟨rfl, hful⟩
  · have hi0 : ¬ (i0 : Int) < 0 := by omega
    have hi0D : decide ((i0 : Int) < 0) = false := by simp only [decide_eq_false_iff_not]; exact hi0
    have FIN : Hid (∀ i g k, Fre u (fl mk) mk i g k → TkS P u us mk (256 * g + k * sz u) 0 us (put mk g (mk g ||| 2 ^ k)) ∧ fl mk = fl (put mk g (mk g ||| 2 ^ k))) := fun i g k hf => by
      have hrm := fre_rm HF4.out HML.out hf
      exact ⟨Or.inl ⟨g, k, hrm, hf.2.1, rfl, rfl, rfl, rfl⟩, (fl_put HF4.out hrm.1.1 or_ne).symm⟩
    have HNF : Hid (¬ ∀ g ∈ fl mk, ful u (mk g)) := fun z => by
      have := z g0 (List.mem_of_getElem? hfre0.1) k0 hfre0.2.1.1
      rw [hfre0.2.1.2.1] at this
      cases this
    have HSA := HS
    have HRA := HRO
    have HDA := HDI
    have HK0 : Hid (Kp (fun x => F x ∨ sft s vf vl rb (fl mk) x) (fun x => F x ∨ sft s vf vl rb (fl mk) x) w w) := Kp.refl _ _
    clear hfre0
    have hi0E : decide ((i0 : Int) < 0) = false := hi0D
    have CF2 : Hid (Calls _ _ _ _ _) := rfree_s HSA.out
    go_wp2_with fail
    refine CF2.out.mono ?_
    rintro e w3 ⟨hw3, hcase⟩
    obtain rfl := hw3.symm
    clear hw3 CF2
    rcases hcase with ⟨i, g, k, rfl, hfre⟩ | ⟨rfl, hfull⟩
    · obtain ⟨hT9, hfs9⟩ := FIN.out i g k hfre
      have HT9 : Hid (TkS P u us mk (256 * g + k * sz u) 0 us (put mk g (mk g ||| 2 ^ k))) := hT9
      have HFS9 : Hid ((fl mk) = fl (put mk g (mk g ||| 2 ^ k))) := hfs9
      have hgm : g ∈ (fl mk) := List.mem_of_getElem? hfre.1
      have hk := hfre.2.1.1
      have hil := (List.getElem?_eq_some_iff.1 hfre.1).1
      have hlen := HSA.out.len
      have hg4 := HSA.out.f4 g hgm
      have hpn := pn_le u
      obtain ⟨a1, n1, e1⟩ := HSA.out.vf
      obtain ⟨a2, n2, e2⟩ := HSA.out.vl
      subst e1 e2
      obtain ⟨fb, e1, hcf⟩ := HSA.out.fat hfre.1
      obtain ⟨lb, e2, hcl⟩ := HSA.out.lat hfre.1
      subst e1 e2
      have c2 := HSA.out.c2
      have c3 := HSA.out.c3
      have hb := HSA.out.bit hgm hk
      have hfz := (HSA.out.bl g hgm).frozen k
      obtain ⟨h5, k5⟩ := HSA.out.turn hgm true (bL_on hk) (Nat.or_lt_two_pow (HSA.out.ml g) (Nat.pow_lt_pow_right (by omega) hk))
      obtain ⟨W5, hW5⟩ : ∃ W5, w.setCell ⟨rb g, k, none⟩ (.bool true) = W5 := ⟨_, rfl⟩
      rw [hW5] at h5 k5
      have H5 : Hid (Sr W5 s q u _ _ rb (fl mk) (put mk g (mk g ||| 2 ^ k))) := h5
      have K5 : Hid (Kp _ _ (w) W5) := k5
      obtain ⟨fb', e1, hcf5⟩ := h5.fat hfre.1
      cases e1
      have c25 := h5.c2
      have CAD : Hid (Calls _ _ _ _ _) := raddress_s h5 g k hg4 hk
      have hilI : (i : Int) < ((fl mk).length : Int) := by omega
      have hkI : (k : Int) < (pn u : Int) := by omega
      obtain ⟨n, hn⟩ : ∃ n, (fl mk).length = n := ⟨_, rfl⟩
      obtain ⟨m, hm⟩ : ∃ m, pn u = m := ⟨_, rfl⟩
      rw [hn] at c2 c3 c25 hil hilI hlen
      rw [hm] at hcl hpn hkI
      have hkm : k < m := by rw [← hm]; exact hk
      clear h5 k5 hfre hT9 hfs9 hgm hn hm hk
      go_wp2_with fail
      refine CAD.out.mono ?_
      rintro e w6 ⟨rfl, hw6⟩
      obtain rfl := hw6.symm
      clear hw6 CAD hW5
      have FIN2 : Hid (Ro W5 F q P us ∧ Sr W5 s q u (.slice (some ⟨fb, 0, none⟩) (fl mk).length n1) (.slice (some ⟨lb, 0, none⟩) (fl mk).length n2) rb (fl (put mk g (mk g ||| 2 ^ k))) (put mk g (mk g ||| 2 ^ k)) ∧ (∀ x, sft s (.slice (some ⟨fb, 0, none⟩) (fl mk).length n1) (.slice (some ⟨lb, 0, none⟩) (fl mk).length n2) rb (fl (put mk g (mk g ||| 2 ^ k))) x → ¬ F x) ∧ Kp (fun x => F x ∨ sft s (.slice (some ⟨fb, 0, none⟩) (fl mk).length n1) (.slice (some ⟨lb, 0, none⟩) (fl mk).length n2) rb (fl mk) x) (fun x => F x ∨ sft s (.slice (some ⟨fb, 0, none⟩) (fl mk).length n1) (.slice (some ⟨lb, 0, none⟩) (fl mk).length n2) rb (fl (put mk g (mk g ||| 2 ^ k))) x) w W5) := by
        rw [← HFS9.out]
        exact ⟨HRA.out.kept K5.out (fun x hx z => HDA.out x z hx), H5.out, HDA.out, kp_own HK0.out K5.out⟩
      go_wp2
      go_ret2
      exact ⟨256 * g + k * sz u, 0, us, _, _, _, rb, rfl, HT9.out, FIN2.out.1, FIN2.out.2.1, FIN2.out.2.2.1, FIN2.out.2.2.2⟩
    · exact absurd hfull HNF.out
  · have HFU : Hid (∀ g ∈ fl mk, ful u (mk g)) := hful
    have c0 := HS.out.c0
    have c1 := HS.out.c1
    have HB : Hid (∀ W w', Below w.heap.size w W → Kp F F W w' → Sr w' s q u vf vl rb (fl mk) mk) := fun W w' hW hK => (HS.out.below hW).of_eq hK.size (fun x hx => hK.block x ((HS.out.below hW).flt x hx) (HDI.out x hx))
    have CT : Hid (∀ W, Below w.heap.size w W → Calls Tryz.prog 37 #[.pointer (some ⟨q, 0, none⟩), .int .u8 u] W fun x w' => ∃ (g e : Nat) (us' : Us), x = .returned (.tuple #[.int .i64 g, .int .i64 e]) ∧ Tko P us u g e us' ∧ Ro w' F q P us' ∧ Kp F F W w') := fun W hW => rTake_use (HRO.out.below hW) u (by omega) (by omega)
    clear hful
    go_wp2
    go_region_held3 (fun W => W.cell? ⟨s, 0, none⟩ = some (.pointer (some ⟨q, 0, none⟩)) ∧ W.cell? ⟨s, 1, none⟩ = some (.int .u8 u))
      (first | exact ⟨c0, c1⟩ | exact HS1.out)
      ((go_at_call 37; refine (CT.out _ (by first | exact (Below.refl _ _).drew | exact Below.refl _ _)).mono ?_; rintro e WA ⟨f, er, us', rfl, hT, hP2, hK2⟩; have HSA : Hid (Sr WA s q u vf vl rb (fl mk) mk) := HB.out _ _ (by first | exact (Below.refl _ _).drew | exact Below.refl _ _) hK2; have HS1 : Hid (WA.cell? ⟨s, 0, none⟩ = some (.pointer (some ⟨q, 0, none⟩)) ∧ WA.cell? ⟨s, 1, none⟩ = some (.int .u8 u)) := ⟨HSA.out.c0, HSA.out.c1⟩; have HT : Hid (Tko P us u f er us') := hT; have HRA : Hid (Ro WA F q P us') := hP2; have HK2 : Hid (Kp F F w WA) := ⟨hK2.os, hK2.tape, hK2.output, hK2.size, fun x hx hn => hK2.block x hx hn, fun x hx => Or.inl hx⟩; clear hT hP2 hK2))
    clear HS1 c0 c1 CT HB
    by_cases hz : er = 0
    · subst hz
      obtain ⟨x0, t1, t2, t3⟩ := (HT.out.resolve_right (fun z => by cases z.1)).2.1
      have HOK : Hid P.Ok := HRA.out.ok
      have hfn : us f = none := by rw [t2]; exact (opn_iff.1 t1.open).2
      have hf4 : f < 4096 := by rw [t2]; exact fm_lt HOK.out (best_lt HOK.out us) (opn_iff.1 t1.open).1
      have hmf : mk f = 0 := by
        by_cases q : mk f = 0
        · exact q
        · have := lk f q
          rw [hfn] at this
          cases this
      have HMF : Hid (mk f = 0) := hmf
      have hnf : f ∉ fl mk := fun z => (mem_fl.1 z).2 hmf
      have HF44 : Hid (f < 4096) := hf4
      have CO : Hid (Calls _ _ _ _ _) := ropen_s HSA.out f hnf hf4
      clear t1 t2 t3 hfn hmf hnf
      go_wp2_with fail
      refine CO.out.mono ?_
      rintro e WB ⟨rfl, vf2, vl2, rb2, fs2, hS2, hm2, hK3⟩
      have HM2 : Hid (∀ x, x ∈ fs2 ↔ x = f ∨ x ∈ fl mk) := hm2
      have HSB : Hid (Sr WB s q u vf2 vl2 rb2 fs2 mk) := hS2
      have HDB : Hid (∀ x, sft s vf2 vl2 rb2 fs2 x → ¬ F x) := fun x hx hF => by
        rcases hK3.new x hx with z | z
        · exact HDI.out x z hF
        · have := HRA.out.lt x hF; omega
      have HRB : Hid (Ro WB F q P us') := HRA.out.kept hK3 (fun x hx z => HDI.out x z hx)
      have HKB : Hid (Kp (fun x => F x ∨ sft s vf vl rb (fl mk) x) (fun x => F x ∨ sft s vf2 vl2 rb2 fs2 x) w WB) := kp_own (kp_pool HK2.out) hK3
      have FIN : Hid (∀ i g k, Fre u fs2 mk i g k → TkS P u us mk (256 * g + k * sz u) 0 us' (put mk g (mk g ||| 2 ^ k)) ∧ fs2 = fl (put mk g (mk g ||| 2 ^ k))) := fun i g k hf => by
        obtain ⟨rfl, rfl⟩ := fre_fresh HFU.out HM2.out HMF.out hf
        refine ⟨Or.inr ⟨ful_no HF4.out HML.out HFU.out, g, HT.out, Or.inl ⟨rfl, by omega, ?_⟩⟩, fl_new HF4.out HSB.out.asc HM2.out HF44.out or_ne⟩
        rw [HMF.out]
        rfl
      have HNF : Hid (¬ ∀ g ∈ fs2, ful u (mk g)) := fun z => fre_not ((HM2.out f).2 (Or.inl rfl)) HMF.out z
      clear hS2 hm2 hK3 CO HSA HRA HK2
      have CF2 : Hid (Calls _ _ _ _ _) := rfree_s HSB.out
      go_wp2_with fail
      refine CF2.out.mono ?_
      rintro e w3 ⟨hw3, hcase⟩
      obtain rfl := hw3.symm
      clear hw3 CF2
      rcases hcase with ⟨i, g, k, rfl, hfre⟩ | ⟨rfl, hfull⟩
      · obtain ⟨hT9, hfs9⟩ := FIN.out i g k hfre
        have HT9 : Hid (TkS P u us mk (256 * g + k * sz u) 0 us' (put mk g (mk g ||| 2 ^ k))) := hT9
        have HFS9 : Hid (fs2 = fl (put mk g (mk g ||| 2 ^ k))) := hfs9
        have hgm : g ∈ fs2 := List.mem_of_getElem? hfre.1
        have hk := hfre.2.1.1
        have hil := (List.getElem?_eq_some_iff.1 hfre.1).1
        have hlen := HSB.out.len
        have hg4 := HSB.out.f4 g hgm
        have hpn := pn_le u
        obtain ⟨a1, n1, e1⟩ := HSB.out.vf
        obtain ⟨a2, n2, e2⟩ := HSB.out.vl
        subst e1 e2
        obtain ⟨fb, e1, hcf⟩ := HSB.out.fat hfre.1
        obtain ⟨lb, e2, hcl⟩ := HSB.out.lat hfre.1
        subst e1 e2
        have c2 := HSB.out.c2
        have c3 := HSB.out.c3
        have hb := HSB.out.bit hgm hk
        have hfz := (HSB.out.bl g hgm).frozen k
        obtain ⟨h5, k5⟩ := HSB.out.turn hgm true (bL_on hk) (Nat.or_lt_two_pow (HSB.out.ml g) (Nat.pow_lt_pow_right (by omega) hk))
        obtain ⟨W5, hW5⟩ : ∃ W5, WB.setCell ⟨rb2 g, k, none⟩ (.bool true) = W5 := ⟨_, rfl⟩
        rw [hW5] at h5 k5
        have H5 : Hid (Sr W5 s q u _ _ rb2 fs2 (put mk g (mk g ||| 2 ^ k))) := h5
        have K5 : Hid (Kp _ _ WB W5) := k5
        obtain ⟨fb', e1, hcf5⟩ := h5.fat hfre.1
        cases e1
        have c25 := h5.c2
        have CAD : Hid (Calls _ _ _ _ _) := raddress_s h5 g k hg4 hk
        have hilI : (i : Int) < (fs2.length : Int) := by omega
        have hkI : (k : Int) < (pn u : Int) := by omega
        obtain ⟨n, hn⟩ : ∃ n, fs2.length = n := ⟨_, rfl⟩
        obtain ⟨m, hm⟩ : ∃ m, pn u = m := ⟨_, rfl⟩
        rw [hn] at c2 c3 c25 hil hilI hlen
        rw [hm] at hcl hpn hkI
        have hkm : k < m := by rw [← hm]; exact hk
        clear h5 k5 hfre hT9 hfs9 hgm hn hm hk
        go_wp2_with fail
        refine CAD.out.mono ?_
        rintro e w6 ⟨rfl, hw6⟩
        obtain rfl := hw6.symm
        clear hw6 CAD hW5
        have FIN2 : Hid (Ro W5 F q P us' ∧ Sr W5 s q u (.slice (some ⟨fb, 0, none⟩) fs2.length n1) (.slice (some ⟨lb, 0, none⟩) fs2.length n2) rb2 (fl (put mk g (mk g ||| 2 ^ k))) (put mk g (mk g ||| 2 ^ k)) ∧ (∀ x, sft s (.slice (some ⟨fb, 0, none⟩) fs2.length n1) (.slice (some ⟨lb, 0, none⟩) fs2.length n2) rb2 (fl (put mk g (mk g ||| 2 ^ k))) x → ¬ F x) ∧ Kp (fun x => F x ∨ sft s vf vl rb (fl mk) x) (fun x => F x ∨ sft s (.slice (some ⟨fb, 0, none⟩) fs2.length n1) (.slice (some ⟨lb, 0, none⟩) fs2.length n2) rb2 (fl (put mk g (mk g ||| 2 ^ k))) x) w W5) := by
          rw [← HFS9.out]
          exact ⟨HRB.out.kept K5.out (fun x hx z => HDB.out x z hx), H5.out, HDB.out, kp_own HKB.out K5.out⟩
        go_wp2
        go_ret2
        exact ⟨256 * g + k * sz u, 0, us', _, _, _, rb2, rfl, HT9.out, FIN2.out.1, FIN2.out.2.1, FIN2.out.2.2.1, FIN2.out.2.2.2⟩
      · exact absurd hfull HNF.out
    · have HE : Hid (er = 4 ∧ f = 0 ∧ us' = us) := by
        rcases HT.out with z | z
        · exact absurd z.1 hz
        · exact ⟨z.1, z.2.1, z.2.2.1⟩
      have herB : ((er : Int) != 0) = true := by simp; omega
      have herI : ¬ (er : Int) = 0 := by omega
      have FIN : Hid (TkS P u us mk 0 er us' mk) := Or.inr ⟨ful_no HF4.out HML.out HFU.out, f, HT.out, Or.inr ⟨hz, rfl, rfl⟩⟩
      clear hz
      go_wp2
      go_ret2
      exact ⟨0, er, us', mk, vf, vl, rb, rfl, FIN.out, HRA.out, HSA.out, HDI.out, kp_pool HK2.out⟩
end Go.Proofs.YtdempgjhjcjklaaGreat.P
namespace Go.Proofs.YtdempgjhjcjklaaGreat.P
open B Go.ChangeShapes Go.WideShapes Go.ChangeAt Go.RowKit
set_option linter.unusedVariables false
set_option maxRecDepth 8192

theorem fl_del {mk : Ms} {fs : List Nat} {g : Nat} (hf : ∀ x, mk x ≠ 0 → x < 4096) (ha : fs.Pairwise (· < ·)) (hm : ∀ x, x ∈ fs ↔ x ∈ fl mk ∧ x ≠ g) : fs = fl (put mk g 0) := by
  refine fl_of ha (fun x hx => ?_) (fun x => ?_)
  · by_cases e : x = g
    · rw [e, put_same] at hx; exact absurd rfl hx
    · rw [put_other _ _ _ _ e] at hx; exact hf x hx
  · rw [hm, mem_fl]
    by_cases e : x = g
    · subst e; rw [put_same]; exact ⟨fun z => absurd rfl z.2, fun z => absurd rfl z⟩
    · rw [put_other _ _ _ _ e]
      exact ⟨fun z => z.1.2, fun z => ⟨⟨hf x z, z⟩, e⟩⟩
def Nh (u : Nat) (fs : List Nat) (mk : Ms) (a i : Nat) : Prop := ∀ j g t, j < i → fs[j]? = some g → t < pn u → ¬ Hit u mk a g t
theorem gvS_hit {u : Nat} {us : Us} {mk : Ms} {a e g k : Nat} {us' : Us} {mk' : Ms} (h : GvS u us mk a e us' mk') (hh : Hit u mk a g k) : e = 0 ∧ mk' = put mk g (clr (mk g) k) ∧ us' = if clr (mk g) k = 0 then pt us g none else us := by
  have := h.uniq (Or.inl ⟨g, k, hh, rfl, rfl, rfl⟩)
  exact ⟨this.1.symm, this.2.2.symm, this.2.1.symm⟩
theorem gvS_not {u : Nat} {us : Us} {mk : Ms} {a e : Nat} {us' : Us} {mk' : Ms} (h : GvS u us mk a e us' mk') (hn : ∀ g i, ¬ Hit u mk a g i) : e = 91 ∧ mk' = mk ∧ us' = us := by
  rcases h with ⟨g, i, h1, _⟩ | ⟨_, h1, h2, h3⟩
  · exact absurd h1 (hn g i)
  · exact ⟨h1, h3, h2⟩
set_option maxHeartbeats 4000000 in
theorem rsGive_s {w : World} {F : Nat → Prop} {P : Par} {us : Us} {s q u : Nat} {vf vl : Value} {rb : Nat → Nat} {mk : Ms} (hr : Ro w F q P us) (h : Sr w s q u vf vl rb (fl mk) mk) (dis : ∀ x, sft s vf vl rb (fl mk) x → ¬ F x) (lk : Lk u us mk) {a e : Nat} {us' : Us} {mk' : Ms} (ha : a < 18446744073709551616) (hgv : GvS u us mk a e us' mk') : Calls Tryz.prog 35 #[.pointer (some ⟨s, 0, none⟩), .int .u64 a] w fun x w' => ∃ (vf' vl' : Value), x = .returned (.int .i64 e) ∧ Ro w' F q P us' ∧ Sr w' s q u vf' vl' rb (fl mk') mk' ∧ (∀ x, sft s vf' vl' rb (fl mk') x → ¬ F x) ∧ Kp (fun x => F x ∨ sft s vf vl rb (fl mk) x) (fun x => F x ∨ sft s vf' vl' rb (fl mk') x) w w' := by
  have C1 : Hid (Calls _ _ _ _ _) := rsthere_s h
  have HGV : Hid (GvS u us mk a e us' mk') := hgv
  have HF4 : Hid (∀ g, mk g ≠ 0 → g < 4096) := fun g hg => by
    by_cases e : g ∈ fl mk
    · exact (mem_fl.1 e).1
    · exact absurd (h.z g e) hg
  have HRO : Hid (Ro w F q P us) := hr
  have HDI0 : Hid (∀ x, sft s vf vl rb (fl mk) x → ¬ F x) := dis
  have HLK : Hid (Lk u us mk) := lk
  have hu := h.u4
  obtain ⟨fa, fc, rfl⟩ := h.vf
  obtain ⟨la, lc, rfl⟩ := h.vl
  have c2 := h.c2
  have c3 := h.c3
  have HS : Hid (Sr w s q u (.slice fa (fl mk).length fc) (.slice la (fl mk).length lc) rb (fl mk) mk) := h
  have hlen := h.len
  have hpn := pn_le u
  obtain ⟨n, hn⟩ : ∃ n, (fl mk).length = n := ⟨_, rfl⟩
  have HN : Hid ((fl mk).length = n) := hn
  rw [hn] at c2 c3 hlen
  obtain ⟨m, hm⟩ : ∃ m, pn u = m := ⟨_, rfl⟩
  have HM : Hid (pn u = m) := hm
  rw [hm] at hpn
  have HA : Hid (a < 18446744073709551616) := ha
  clear h hr dis hgv lk hn hm ha
  go_enter Tryz.func35, Tryz.ntmps35
  go_wp2_with (go_at_call 69; refine C1.out.mono ?_; rintro e w' ⟨rfl, h⟩; obtain rfl := h.symm)
  clear C1
  go_loop [5] (fun z => ∃ i : Nat, z = .int .i64 i ∧ i ≤ n ∧ Nh u (fl mk) mk a i) (fun z => n - (B.iv z).toNat)
  case atStart => exact ⟨0, rfl, by omega, fun j g t hj => by omega⟩
  case round =>
    obtain ⟨i, rfl, hi, hf⟩ := hrel
    have HF : Hid (Nh u (fl mk) mk a i) := hf
    clear hf
    by_cases hlt : i < n
    · have hltI : (i : Int) < (n : Int) := by omega
      obtain ⟨g, hg⟩ : ∃ g, (fl mk)[i]? = some g := ⟨_, List.getElem?_eq_getElem (by rw [HN.out]; exact hlt)⟩
      have HG : Hid ((fl mk)[i]? = some g) := hg
      have hgm : g ∈ fl mk := List.mem_of_getElem? hg
      have HGM : Hid (g ∈ fl mk) := hgm
      have hg4 := HS.out.f4 g hgm
      obtain ⟨lb, rfl, hcl⟩ := HS.out.lat hg
      obtain ⟨fb, rfl, hcf⟩ := HS.out.fat hg
      rw [HM.out] at hcl
      clear hg hgm
      go_wp2
      go_loop [6] (fun z => ∃ k : Nat, z = .int .i64 k ∧ k ≤ m ∧ ∀ t, t < k → ¬ Hit u mk a g t) (fun z => m - (B.iv z).toNat)
      case atStart => exact ⟨0, rfl, by omega, fun j hj => by omega⟩
      case round =>
        obtain ⟨k, rfl, hk, hf⟩ := hrel
        have HK : Hid (∀ t, t < k → ¬ Hit u mk a g t) := hf
        clear hf
        by_cases hkm : k < m
        · have hkI : (k : Int) < (m : Int) := by omega
          have hku : k < pn u := by rw [HM.out]; exact hkm
          have HKU : Hid (k < pn u) := hku
          have hb := HS.out.bit HGM.out hku
          cases hbit : (mk g).testBit k with
          | false =>
            rw [hbit] at hb
            have HE : Hid (¬ Hit u mk a g k) := fun z => by have := z.2.2; rw [hbit] at this; cases this
            clear hbit hku
            go_wp2
            go_round
            case rel => exact ⟨k + 1, by go_num, by omega, fun t ht => by
              by_cases e : t = k
              · rw [e]; exact HE.out
              · exact HK.out t (by omega)⟩
            case measure => simp [B.iv]; omega
          | true =>
            rw [hbit] at hb
            have HBI : Hid ((mk g).testBit k = true) := hbit
            have CA : Hid (Calls _ _ _ _ _) := raddress_s HS.out g k hg4 hku
            obtain ⟨y, hy⟩ : ∃ y, 256 * g + k * sz u = y := ⟨_, rfl⟩
            have HY : Hid (256 * g + k * sz u = y) := hy
            rw [hy] at CA
            clear hy hku
            by_cases hya : y = a
            · subst hya
              have hh : Hit u mk y g k := ⟨HKU.out, HY.out.symm, HBI.out⟩
              obtain ⟨e0, e1, e2⟩ := gvS_hit HGV.out hh
              have hx16 : mk g < 65536 := Nat.lt_of_lt_of_le (HS.out.ml g) (two_pn u)
              have hfz := (HS.out.bl g HGM.out).frozen k
              obtain ⟨h5, k5⟩ := HS.out.turn HGM.out false (bL_off HKU.out hx16) (Nat.lt_of_le_of_lt (clr_le _ _) (HS.out.ml g))
              obtain ⟨W5, hW5⟩ : ∃ W5, w.setCell ⟨rb g, k, none⟩ (.bool false) = W5 := ⟨_, rfl⟩
              rw [hW5] at h5 k5
              have hR5 : Ro W5 F q P us := HRO.out.kept k5 (fun x hx z => HDI0.out x z hx)
              have hug : us g = some u := HLK.out g (mem_fl.1 HGM.out).2
              have CC : Hid (Calls _ _ _ _ _) := rclose_s hR5 h5 HDI0.out HG.out hug (by omega)
              have HE0 : Hid (e = 0) := e0
              have HE1 : Hid (mk' = put mk g (clr (mk g) k)) := e1
              have HE2 : Hid (us' = if clr (mk g) k = 0 then pt us g none else us) := e2
              have HK5 : Hid (Kp _ _ w W5) := k5
              clear hbit h5 k5 hR5 hug e0 e1 e2 hh hx16
              go_wp2_with fail
              refine CA.out.mono ?_
              rintro e' w6 ⟨rfl, hw6⟩
              obtain rfl := hw6.symm
              clear hw6 CA
              go_wp2_with fail
              refine CC.out.mono ?_
              rintro e' w7 ⟨vf7, vl7, fs7, rfl, hR7, hS7, hfs7, hD7, hK7⟩
              have FIN : Hid (Ro w7 F q P us' ∧ Sr w7 s q u vf7 vl7 rb (fl mk') mk' ∧ (∀ x, sft s vf7 vl7 rb (fl mk') x → ¬ F x) ∧ Kp (fun x => F x ∨ sft s (.slice (some ⟨fb, 0, none⟩) (fl mk).length fc) (.slice (some ⟨lb, 0, none⟩) (fl mk).length lc) rb (fl mk) x) (fun x => F x ∨ sft s vf7 vl7 rb (fl mk') x) w w7) := by
                have hfs8 : fs7 = fl mk' := by
                  rw [hfs7, HE1.out, put_same]
                  by_cases q : clr (mk g) k = 0
                  · rw [if_pos q, q]
                    exact fl_del HF4.out (HS.out.asc.sublist (List.eraseIdx_sublist _ _)) (er_mem HS.out.asc HG.out)
                  · rw [if_neg q]
                    exact (fl_put HF4.out (mem_fl.1 HGM.out).2 q).symm
                rw [put_same] at hR7
                rw [HE2.out, ← hfs8, HE1.out]
                exact ⟨hR7, hS7, hD7, (kp_own (Kp.refl _ _) HK5.out).trans hK7⟩
              clear hR7 hS7 hfs7 hD7 hK7 hW5 CC
              go_wp2
              go_ret
              exact ⟨_, _, by rw [HE0.out]; rfl, FIN.out.1, FIN.out.2.1, FIN.out.2.2.1, FIN.out.2.2.2⟩
            · have hyaB : ((y : Int) == (a : Int)) = false := by simp; omega
              have hyaI : ¬ (y : Int) = (a : Int) := by omega
              have HE : Hid (¬ Hit u mk a g k) := fun z => hya (HY.out.symm.trans z.2.1.symm)
              clear hbit hya
              go_wp2_with fail
              refine CA.out.mono ?_
              rintro e' w6 ⟨rfl, hw6⟩
              obtain rfl := hw6.symm
              clear hw6 CA
              go_wp2
              go_round
              case rel => exact ⟨k + 1, by go_num, by omega, fun t ht => by
                by_cases e : t = k
                · rw [e]; exact HE.out
                · exact HK.out t (by omega)⟩
              case measure => simp [B.iv]; omega
        · obtain rfl : k = m := by omega
          go_wp2
          go_round
          case rel => exact ⟨i + 1, by go_num, by omega, fun j g' t hj hg' ht => by
            by_cases e : j = i
            · rw [e, HG.out] at hg'
              injection hg' with hg'
              subst hg'
              exact HK.out t (by rw [← HM.out]; exact ht)
            · exact HF.out j g' t (by omega) hg' ht⟩
          case measure => simp [B.iv]; omega
    · obtain rfl : i = n := by omega
      obtain ⟨e0, e1, e2⟩ := gvS_not HGV.out (fun g t z => by
        have hg0 : mk g ≠ 0 := fun q => by have := z.2.2; rw [q] at this; simp at this
        obtain ⟨j, hj⟩ := List.mem_iff_getElem?.1 (mem_fl.2 ⟨HF4.out g hg0, hg0⟩)
        exact HF.out j g t (by have := (List.getElem?_eq_some_iff.1 hj).1; have := HN.out; omega) hj z.1 z)
      have FIN : Hid (e = 91 ∧ Ro w F q P us' ∧ Sr w s q u (.slice fa (fl mk).length fc) (.slice la (fl mk).length lc) rb (fl mk') mk' ∧ (∀ x, sft s (.slice fa (fl mk).length fc) (.slice la (fl mk).length lc) rb (fl mk') x → ¬ F x) ∧ Kp (fun x => F x ∨ sft s (.slice fa (fl mk).length fc) (.slice la (fl mk).length lc) rb (fl mk) x) (fun x => F x ∨ sft s (.slice fa (fl mk).length fc) (.slice la (fl mk).length lc) rb (fl mk') x) w w) := by
        rw [e1, e2]
        exact ⟨e0, HRO.out, HS.out, HDI0.out, Kp.refl _ _⟩
      clear e0 e1 e2
      go_wp2
      go_ret
      exact ⟨by rw [FIN.out.1]; rfl, FIN.out.2.1, _, _, FIN.out.2.2.1, FIN.out.2.2.2.1, FIN.out.2.2.2.2⟩
end Go.Proofs.YtdempgjhjcjklaaGreat.P
