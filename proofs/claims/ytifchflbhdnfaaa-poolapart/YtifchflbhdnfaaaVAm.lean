/- PoolApart's mathematics: whose frames have been met; no condition but those that each theorem names. -/
import Derived.Test.YtifchflbhdnfaaaVLw
import Derived.Test.YtifchflbhdnfaaaVPn
namespace Go.Proofs.Ytifchflbhdnfaaa.P
open Go.ChangeShapes Go.WideShapes Go.ChangeAt Go.RowKit
set_option linter.unusedVariables false
set_option maxRecDepth 8192

/-- The frame has a colour of one of the first n partitions. -/
def Erl (c : Cf) (n g : Nat) : Prop := ∃ m, m < n ∧ ∃ j, j < (c.pf m).n ∧ (g % c.C.toNat : Nat) = ((c.pf m).f j).toNat
/-- A frame of this partition is of none ahead of it. -/
theorem erl_not {c : Cf} (h : c.Ok) {n : Nat} (hn : n < c.pn) {i x : Nat} (hi : i < (par c n).k) : ¬ Erl c n (fm (par c n) i x) := by
  rintro ⟨m, hm, j, hj, e⟩
  have hP := par_ok h hn
  have e2 : fm (par c n) i x % (par c n).C = (par c n).f i := fm_mod (hP.fC i hi) x
  have e3 : (par c n).f i = ((c.pf m).f j).toNat := e2.symm.trans e
  have k := h.part hn
  have hs := k.sh
  have r1 := (prn_of h hn).f i hi
  have r2 := (prn_of h (show m < c.pn by omega)).f j hj
  have e4 : (c.pf n).f i = (c.pf m).f j := by
    have : ((c.pf m).f j).toNat = (c.pf m).f j := by omega
    omega
  have : sh c (c.pf n) n = true := sh_iff.2 ⟨m, hm, j, hj, has_iff.2 ⟨i, hi, e4⟩⟩
  rw [hs] at this
  cases this
theorem erl_own {c : Cf} (h : c.Ok) {n : Nat} (hn : n < c.pn) {i x : Nat} (hi : i < (par c n).k) : Erl c (n + 1) (fm (par c n) i x) :=
  ⟨n, by omega, i, hi, fm_mod ((par_ok h hn).fC i hi) x⟩
theorem Erl.more {c : Cf} {n g : Nat} (h : Erl c n g) : Erl c (n + 1) g := by
  obtain ⟨m, h1, h2⟩ := h
  exact ⟨m, by omega, h2⟩
/-- A list of frames that are taken, each once. -/
structure Ml (us : Us) (M : List Int) : Prop where
  nd : M.Nodup
  tk : ∀ x ∈ M, ∃ g : Nat, x = g ∧ us g ≠ none
theorem Ml.add {us : Us} {M : List Int} (h : Ml us M) {g u : Nat} (hg : us g = none) : Ml (B.pt us g (some u)) (M ++ [(g : Int)]) := by
  refine ⟨?_, fun x hx => ?_⟩
  · rw [List.nodup_append]
    refine ⟨h.nd, by simp, fun a ha b hb e => ?_⟩
    simp at hb
    subst hb
    obtain ⟨g', e1, e2⟩ := h.tk a ha
    have : g = g' := by omega
    subst this
    exact e2 hg
  · rcases List.mem_append.1 hx with q | q
    · obtain ⟨g', e1, e2⟩ := h.tk x q
      refine ⟨g', e1, ?_⟩
      unfold B.pt
      split
      · simp
      · exact e2
    · simp at q
      exact ⟨g, q, by simp [B.pt]⟩
theorem Ml.image {P : Par} (hP : P.Ok) {us : Us} (a : Nat) : ∀ m, Ml (mkI P us a m) (imgL P a m)
  | 0 => ⟨by simp [imgL], by simp [imgL]⟩
  | m + 1 => by
    have ih := Ml.image hP (us := us) a m
    rw [imgL_succ]
    refine ⟨?_, fun x hx => ?_⟩
    · rw [List.nodup_append]
      refine ⟨ih.nd, by simp, fun y hy b hb e => ?_⟩
      simp at hb
      subst hb
      subst e
      simp only [imgL, List.mem_map, List.mem_range] at hy
      obtain ⟨t, h1, h2⟩ := hy
      have := (fm_inj hP hP.k1 hP.k1 (Int.ofNat.inj h2)).2
      omega
    · rcases List.mem_append.1 hx with q | q
      · simp only [imgL, List.mem_map, List.mem_range] at q
        obtain ⟨t, h1, h2⟩ := q
        exact ⟨fm P 0 (a + t), h2.symm, by rw [mkI_in us a (by omega)]; simp⟩
      · simp at q
        exact ⟨fm P 0 (a + m), q, by rw [mkI_in us a (by omega)]; simp⟩
/-- Who has been met: those ahead, and the first i of the list. -/
def Mt' (c : Cf) (n : Nat) (M : List Int) (i : Nat) (f : Nat → Int) : Prop := ∀ g : Nat, f g ≠ 0 → Erl c n g ∨ (g : Int) ∈ M.take i
theorem mt_zero {c : Cf} {n : Nat} {M : List Int} {f : Nat → Int} (h : ∀ g : Nat, f g ≠ 0 → Erl c n g) : Mt' c n M 0 f := fun g hg => Or.inl (h g hg)
/-- The next one has not been met. -/
theorem mt_free {c : Cf} (h : c.Ok) {n : Nat} (hn : n < c.pn) {us : Us} (hv : Va (par c n) us) {M : List Int} (hM : Ml us M) {i : Nat} {f : Nat → Int} (hf : Mt' c n M i f) {x : Int} (hx : M[i]? = some x) : ∃ g : Nat, x = g ∧ g < 4096 ∧ f g = 0 := by
  obtain ⟨hi, hxe⟩ := List.getElem?_eq_some_iff.1 hx
  obtain ⟨g, rfl, hg⟩ := hM.tk x (hxe ▸ List.getElem_mem hi)
  obtain ⟨u, hu⟩ := Option.ne_none_iff_exists'.1 hg
  obtain ⟨_, _, j, y, hj, hy, rfl⟩ := hv.us1 g u hu
  refine ⟨_, rfl, fm_lt (par_ok h hn) hj hy, ?_⟩
  by_cases e : f (fm (par c n) j y) = 0
  · exact e
  · rcases hf _ e with q | q
    · exact absurd q (erl_not h hn hj)
    · obtain ⟨k, hk, hke⟩ := List.getElem_of_mem q
      rw [List.getElem_take] at hke
      have hki : k < i := by rw [List.length_take] at hk; omega
      have := (List.pairwise_iff_getElem.1 hM.nd) k i (by omega) hi hki
      rw [hke, hxe] at this
      exact absurd rfl this
theorem mt_next {c : Cf} {n : Nat} {M : List Int} {i : Nat} {f f' : Nat → Int} (hf : Mt' c n M i f) {g : Nat} (hx : M[i]? = some (g : Int)) {v : Int} (e : ∀ y, f' y = if y = g then v else f y) : Mt' c n M (i + 1) f' := by
  intro y hy
  rw [e] at hy
  have hsub : ∀ z, z ∈ M.take i → z ∈ M.take (i + 1) := fun z hz => by
    rw [List.take_add_one]
    exact List.mem_append_left _ hz
  by_cases q : y = g
  · right
    subst q
    rw [List.take_add_one, hx]
    simp
  · rw [if_neg q] at hy
    exact (hf y hy).imp id (hsub _)
theorem mt_end {c : Cf} (h : c.Ok) {n : Nat} (hn : n < c.pn) {us : Us} (hv : Va (par c n) us) {M : List Int} (hM : Ml us M) {f : Nat → Int} (hf : Mt' c n M M.length f) : ∀ g : Nat, f g ≠ 0 → Erl c (n + 1) g := by
  intro g hg
  rcases hf g hg with q | q
  · exact q.more
  · rw [List.take_length] at q
    obtain ⟨g', e, hu⟩ := hM.tk _ q
    have : g = g' := by omega
    subst this
    obtain ⟨u, hu⟩ := Option.ne_none_iff_exists'.1 hu
    obtain ⟨_, _, j, y, hj, hy, rfl⟩ := hv.us1 g u hu
    exact erl_own h hn hj
theorem Tkn.was {P : Par} {us : Us} {u g : Nat} {us' : Us} (h : Tkn P us u g us') : us g = none ∧ us' = B.pt us g (some u) := by
  obtain ⟨a, h1, h2, h3⟩ := h
  subst h2
  exact ⟨(opn_iff.1 h1.open).2, h3⟩
/-- Where PoolApart stands between the partitions: the configuration's box, the row of owners. -/
structure Ta (w0 w : World) (a : Ad) (c : Cf) (go : Nat) (f : Nat → Int) : Prop where
  cb : Cb w0 w w0.heap.size a c
  cn : Cnt w go 4096 f
  go : w0.heap.size < go
theorem Ta.below {w0 w w' : World} {a : Ad} {c : Cf} {go : Nat} {f : Nat → Int} (h : Ta w0 w a c go f) (k : Below w.heap.size w w') : Ta w0 w' a c go f := ⟨h.cb.below k, h.cn.below k, h.go⟩
theorem Cnt.lt' {w : World} {g n : Nat} {f : Nat → Int} (h : Cnt w g n f) : g < w.heap.size := Blk.lt h
theorem Ta.keep {w0 w w' : World} {a : Ad} {c : Cf} {go : Nat} {f : Nat → Int} (hc : Cin w0 a c) (h : Ta w0 w a c go f) {F F' : Nat → Prop} (k : B.Kp F F' w w') (hF : ∀ x, F x → go < x) : Ta w0 w' a c go f := by
  have hgo := h.go
  have hb : Below w0.heap.size w0 w' := h.cb.be.trans (k.below _ h.cb.be.size (fun x hx => by have := hF x hx; omega))
  have hlt := Cnt.lt' h.cn
  refine ⟨⟨hb, Sev.keep h.cb.bx k.size (k.block _ h.cb.bx.lt (fun z => by have := hF _ z; omega)), hc.below hb⟩, ?_, hgo⟩
  have e := k.block go hlt (fun z => by have := hF _ z; omega)
  have := h.cn
  unfold Cnt Blk at this ⊢
  rw [e]
  exact this
/-- .. within a partition: its pool, and the frames that it told. -/
structure Tb (w0 w : World) (a : Ad) (c : Cf) (go : Nat) (f : Nat → Int) (n p : Nat) (F : Nat → Prop) (us : Us) (bs : Nat) (v : Value) (M : List Int) : Prop where
  ta : Ta w0 w a c go f
  po : Po w F p (par c n) us
  fo : ∀ x, F x → go < x
  is : Is w bs v M
  lo : go < bs
  bw : bs ≤ w.heap.size
  no : ∀ g, v.ownBlock = some g → ¬ F g
  ml : Ml us M
theorem Tb.take {w0 w w' : World} {a : Ad} {c : Cf} {go : Nat} {f : Nat → Int} {n p : Nat} {F F' : Nat → Prop} {us us' : Us} {bs : Nat} {v : Value} {M : List Int} (hc : Cin w0 a c) (h : Tb w0 w a c go f n p F us bs v M) (k : B.Kp F F' w w') (hp : Po w' F' p (par c n) us') (hm : Ml us' M) : Tb w0 w' a c go f n p F' us' bs v M := by
  have h1 := h.is.kp k h.no
  have h2 := Cnt.lt' h.ta.cn
  exact ⟨h.ta.keep hc k h.fo, hp, fun x hx => by
    rcases k.new x hx with z | z
    · exact h.fo x z
    · omega, h1.1, h.lo, Nat.le_trans h.bw k.size, h1.2, hm⟩
theorem Ml.mono {us : Us} {M : List Int} (h : Ml us M) {g u : Nat} : Ml (B.pt us g (some u)) M := ⟨h.nd, fun x hx => by
  obtain ⟨g', e1, e2⟩ := h.tk x hx
  refine ⟨g', e1, ?_⟩
  unfold B.pt
  split
  · simp
  · exact e2⟩
/-- The list grows. -/
theorem Tb.more {w0 w w' : World} {a : Ad} {c : Cf} {go : Nat} {f : Nat → Int} {n p : Nat} {F : Nat → Prop} {us : Us} {bs : Nat} {v : Value} {M : List Int} (hc : Cin w0 a c) (h : Tb w0 w a c go f n p F us bs v M) {x : Int} {g k : Nat} (hg : w.grownBy w' v.ownBlock) (hi : Is w' bs (.slice (some ⟨g, 0, none⟩) (M.length + 1) k) (M ++ [x])) (hv : v.ownBlock = some g ∨ w.heap.size ≤ g) (hm : Ml us (M ++ [x])) :
    Tb w0 w' a c go f n p F us bs (.slice (some ⟨g, 0, none⟩) (M.length + 1) k) (M ++ [x]) := by
  have hlo := h.lo
  have hgo := h.ta.go
  have hrow : ∀ y, v.ownBlock = some y → bs ≤ y := fun y hy => (h.is.lt y hy).1
  have kk : B.Kp (fun y => v.ownBlock = some y) (fun y => v.ownBlock = some y) w w' := ⟨hg.os, hg.tape, hg.output, hg.size, fun y hy hn => hg.block y hy (fun e => hn e.symm), fun y hy => Or.inl hy⟩
  refine ⟨h.ta.keep hc kk (fun y hy => by have := hrow y hy; omega), h.po.kept kk (fun y hy z => h.no y z hy), h.fo, hi, h.lo, Nat.le_trans h.bw hg.size, fun y hy z => ?_, hm⟩
  obtain rfl : g = y := by simpa [Value.ownBlock] using hy
  rcases hv with q | q
  · exact h.no _ q z
  · have := h.po.lt g z
    omega
theorem is_snoc' {w : World} {base g k : Nat} {l : List Int} {x : Int} (h : w.ownsRow base 3 1 (.slice (some ⟨g, 0, none⟩) (l.length + 1) k) (l.length + 1) (B.tv l ++ [.int .i64 x])) : Is w base (.slice (some ⟨g, 0, none⟩) (l.length + 1) k) (l ++ [x]) := is_snoc h
/-- An owner is written. -/
theorem Tb.own {w0 w : World} {a : Ad} {c : Cf} {go : Nat} {f f' : Nat → Int} {n p : Nat} {F : Nat → Prop} {us : Us} {bs : Nat} {v : Value} {M : List Int} (hc : Cin w0 a c) (h : Tb w0 w a c go f n p F us bs v M) (g : Nat) (y : Int) (e : ∀ x, f' x = if x = g then y else f x) : Tb w0 (w.setCell ⟨go, g, none⟩ (.int .i64 y)) a c go f' n p F us bs v M := by
  have hg := B.grown_setCell' w go g (.int .i64 y)
  have hs : (w.setCell ⟨go, g, none⟩ (.int .i64 y)).heap.size = w.heap.size := by simp [World.setCell]
  have hlo := h.lo
  refine ⟨⟨Cb.keep hc h.ta.cb hg (by rintro x q; injection q with q; subst q; exact h.ta.go), h.ta.cn.set g y (fun x _ => e x), h.ta.go⟩, h.po.of_eq (by omega) (fun x hx => hg.block x (h.po.lt x hx) (B.some_ne (by have := h.fo x hx; omega))), h.fo, h.is.of_eq (fun x hx => hg.block x (h.is.lt x hx).2 (B.some_ne (by have := (h.is.lt x hx).1; omega))), h.lo, by rw [hs]; exact h.bw, h.no, h.ml⟩
theorem Tb.below {w0 w w' : World} {a : Ad} {c : Cf} {go : Nat} {f : Nat → Int} {n p : Nat} {F : Nat → Prop} {us : Us} {bs : Nat} {v : Value} {M : List Int} (h : Tb w0 w a c go f n p F us bs v M) (k : Below w.heap.size w w') : Tb w0 w' a c go f n p F us bs v M :=
  ⟨h.ta.below k, h.po.below k, h.fo, h.is.below k, h.lo, Nat.le_trans h.bw k.size, h.no, h.ml⟩
end Go.Proofs.Ytifchflbhdnfaaa.P
