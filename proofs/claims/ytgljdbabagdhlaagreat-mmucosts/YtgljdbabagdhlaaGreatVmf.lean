/- What holds of the statements' own tables through all accesses: frames that are no tables, entries and translations that lead there; no condition but those named. -/
import Derived.Test.YtgljdbabagdhlaaGreatVme
namespace Go.Proofs.YtgljdbabagdhlaaGreat.Pg
open P E Go.ChangeShapes Go.WideShapes Go.ChangeAt Go.RowKit
set_option linter.unusedVariables false
set_option maxRecDepth 8192
def upd (v : Nat → Int) (pg : Nat) (x : Int) : Nat → Int := fun q => if q = pg then x else v q
def Fr (x : Int) : Prop := ∃ f : Nat, x = f ∧ 40 ≤ f ∧ f < 64
structure Iv (R : Nat → Prop) (S : E.Sc × Us) (v : Nat → Int) : Prop where
  ok : Ok (par us 0) R S
  rt : R 0
  un : ∃ n, n ≤ 4 ∧ S.2 = uN n
  lf : ∃ f, tb (wd S.1.m) 0 3 0 = some f
  pw : ∀ pg, pg < 32 → pw (wd S.1.m) 0 pg = v pg
  tr : ∀ x ∈ S.1.l, Fr x.f
  fr : ∀ pg, pg < 32 → N.fb (v pg) 1 = true → Fr (v pg / 256)
section
variable {R : Nat → Prop} {S : E.Sc × Us} {v : Nat → Int}
theorem Iv.own (I : Iv R S v) {d k f : Nat} (hd : d ≤ 3) (h : tb (wd S.1.m) 0 d k = some f) : f < 8 := by
  obtain ⟨n, hn, e⟩ := I.un
  have := I.ok.fo.ow 0 I.rt d k f hd h
  exact uN_lt hn (fun q => by rw [← e, this] at q; exact absurd q nofun)
theorem Iv.m_eq (I : Iv R S v) {s : E.Sc} (e : s.m = S.1.m) (hl : ∀ x ∈ s.l, Fr x.f) : Iv R (s, S.2) v := ⟨I.ok.m_eq e, I.rt, I.un, by show ∃ f, tb (wd s.m) 0 3 0 = some f; rw [e]; exact I.lf, by show ∀ pg, pg < 32 → Pg.pw (wd s.m) 0 pg = v pg; rw [e]; exact I.pw, hl, I.fr⟩
theorem Iv.leaf (I : Iv R S v) {pg : Nat} (h : pg < 32) : ∃ f, tb (wd S.1.m) 0 3 (pg / 32) = some f ∧ f < 8 := by
  obtain ⟨f, hf⟩ := I.lf
  rw [Nat.div_eq_of_lt h]
  exact ⟨f, hf, I.own (Nat.le_refl 3) hf⟩
theorem Iv.has (I : Iv R S v) {pg : Nat} (h : pg < 32) : hasP (wd S.1.m) 0 pg = true := by
  obtain ⟨f, hf, _⟩ := I.leaf h
  unfold hasP
  rw [hf]
  rfl
theorem Iv.word (I : Iv R S v) {pg : Nat} (h : pg < 32) : Lf (v pg) := by
  rw [← I.pw pg h]
  exact I.ok.word I.rt pg
theorem Iv.set (I : Iv R S v) {pg : Nat} (h : pg < 32) {x : Int} (hx : Lf x) (hf : N.fb x 1 = true → Fr (x / 256)) : Iv R (setS S.1 0 pg true x, S.2) (upd v pg x) := by
  obtain ⟨f, e, _⟩ := I.leaf h
  have hs : setS S.1 0 pg true x = lk S.1 f (pg % 32) x := setS_some e
  obtain ⟨o1, o2, o3⟩ := I.ok.set I.rt e hx
  obtain ⟨f0, e0⟩ := I.lf
  rw [hs]
  refine ⟨o1, I.rt, I.un, ⟨f0, by rw [o2 0 I.rt 3 0 (Nat.le_refl 3)]; exact e0⟩, fun q hq => ?_, I.tr, fun q hq hb => ?_⟩
  · rw [o3 0 q I.rt]
    unfold upd
    by_cases c : q = pg
    · rw [if_pos ⟨rfl, c⟩, if_pos c]
    · rw [if_neg (fun z => c z.2), if_neg c]
      exact I.pw q hq
  · unfold upd at hb ⊢
    by_cases c : q = pg
    · rw [if_pos c] at hb ⊢; exact hf hb
    · rw [if_neg c] at hb ⊢; exact I.fr q hq hb
theorem Iv.lay (I : Iv R S v) {f o z : Nat} (hf : 40 ≤ f) (g : Nat → Int) : Iv R ({ S.1 with m := F.lay S.1.m (f * 256 + o) z g }, S.2) v := by
  have A : Ag S ({ S.1 with m := F.lay S.1.m (f * 256 + o) z g }, S.2) := ⟨rfl, rfl, fun x hx i => by
    obtain ⟨n, hn, e⟩ := I.un
    have : x < 8 := uN_lt hn (fun q => by rw [← e, hx] at q; exact absurd q nofun)
    exact wd_other _ _ (Or.inr (by omega)) i⟩
  obtain ⟨f0, e0⟩ := I.lf
  refine ⟨A.ok I.ok, I.rt, I.un, ⟨f0, by rw [A.tb I.ok I.rt (Nat.le_refl 3)]; exact e0⟩, fun q hq => ?_, I.tr, I.fr⟩
  rw [← I.pw q hq]
  obtain ⟨f1, e1, h1⟩ := I.leaf hq
  have e2 := (A.tb I.ok I.rt (Nat.le_refl 3) (q / 32)).trans e1
  rw [pw_some e1, pw_some e2]
  exact wd_other _ _ (Or.inr (by omega)) _
theorem fold_ln {h : Hw} : ∀ {l : List Nat} {s : E.Sc}, Ln s → (∀ a ∈ l, a < 2048) → Ln (l.foldl (tou h) s)
  | [], s, L, _ => L
  | a :: l, s, L, hl => by
    rw [List.foldl_cons]
    exact fold_ln (L.tou h (hl a (List.mem_cons_self ..))) (fun b hb => hl b (List.mem_cons_of_mem _ hb))
end
end Go.Proofs.YtgljdbabagdhlaaGreat.Pg
namespace Go.Proofs.YtgljdbabagdhlaaGreat.Pg
open P E Go.ChangeShapes Go.WideShapes Go.ChangeAt Go.RowKit
set_option linter.unusedVariables false
set_option maxRecDepth 8192
theorem look_in {a p : Int} {l : List T.Tr} {x : T.Tr} (h : T.look a p l = some x) : x ∈ l := by
  unfold T.look at h
  exact List.mem_of_find?_eq_some h
theorem pk_in {a p : Int} {l : List T.Tr} (h : (T.pk a p l).2.1 = true) : (T.pk a p l).1 ∈ l := by
  unfold T.pk at h ⊢
  by_cases c : (T.okA a && T.okP p) = true
  · rw [if_pos c] at h ⊢
    cases hx : T.look a p l with
    | some x => exact look_in hx
    | none => rw [hx] at h; exact absurd h (by decide)
  · rw [if_neg c] at h
    exact absurd h (by decide)
theorem rm_in {a p : Int} {l : List T.Tr} {x : T.Tr} (h : x ∈ T.rm a p l) : x ∈ l := by
  unfold T.rm at h
  exact (List.mem_filter.1 h).1
theorem fd_in {a p : Int} {l : List T.Tr} {x : T.Tr} (h : x ∈ T.fd a p l) : x ∈ l := by
  unfold T.fd at h
  split at h
  · split at h
    · rename_i y hy
      rcases List.mem_cons.1 h with e | e
      · rw [e]; exact look_in hy
      · exact rm_in e
    · exact h
  · exact h
theorem rmL_in {a p : Int} {l : List T.Tr} {x : T.Tr} (h : x ∈ T.rmL a p l) : x ∈ l := by
  unfold T.rmL at h
  split at h
  · exact rm_in h
  · exact h
theorem filL_in {n : Nat} {y : T.Tr} {l : List T.Tr} {x : T.Tr} (h : x ∈ T.filL n y l) : x = y ∨ x ∈ l := by
  unfold T.filL at h
  split at h
  · unfold T.fil at h
    rcases List.mem_cons.1 (List.mem_of_mem_take h) with e | e
    · exact Or.inl e
    · exact Or.inr (rm_in e)
  · exact Or.inr h
theorem mrkL_fr {a p : Int} {l : List T.Tr} (hl : ∀ x ∈ l, Fr x.f) : ∀ x ∈ T.mrkL a p l, Fr x.f := by
  intro x h
  unfold T.mrkL at h
  split at h
  · unfold T.mrk at h
    obtain ⟨y, hy, e⟩ := List.mem_map.1 h
    rw [← e]
    cases T.hk a p y
    · exact hl y hy
    · exact hl y hy
  · exact hl x h
section
variable {R : Nat → Prop} {S : E.Sc × Us} {v : Nat → Int}
theorem wk_tr (h : Hw) (s : E.Sc) (r pg : Nat) (hl : ∀ x ∈ s.l, Fr x.f) : ∀ x ∈ (wkS h s r pg).l, Fr x.f := by rw [wk_l]; exact hl
noncomputable def wkV (v : Nat → Int) (pg : Nat) (wr : Bool) : Nat → Int := if alV (v pg) wr = 0 then upd v pg (acc (v pg)) else v
theorem acc_lf {x : Int} (hx : Lf x) {wr : Bool} (h : alV x wr = 0) : Lf (acc x) := lf_word (may_acc hx h)
theorem Iv.why (I : Iv R S v) {pg : Nat} (h : pg < 32) (wr : Bool) : whyV (wd S.1.m) 0 pg wr = alV (v pg) wr := by unfold whyV; rw [I.pw pg h]
theorem Iv.walk (I : Iv R S v) (h : Hw) (a : Int) {pg : Nat} (hp : pg < 32) (wr : Bool) : Iv R ((walkS h S.1 a 0 pg wr).1, S.2) (wkV v pg wr) ∧ ((walkS h S.1 a 0 pg wr).2.2 = 0 → Fr (walkS h S.1 a 0 pg wr).2.1.f) ∧ (walkS h S.1 a 0 pg wr).2.2 = alV (v pg) wr := by
  have Iw : Iv R (wkS h S.1 0 pg, S.2) v := I.m_eq (wk_m h S.1 0 pg) (wk_tr h S.1 0 pg I.tr)
  unfold walkS wkV
  rw [I.why hp wr, I.pw pg hp]
  by_cases c : alV (v pg) wr = 0
  · rw [if_pos c, if_pos c]
    have hb := acc_bits (I.word hp)
    have hfr : Fr (v pg / 256) := I.fr pg hp (al_pres c).1
    have hm := may_acc (I.word hp) c
    have J := Iw.set hp (acc_lf (I.word hp) c) (fun _ => by rw [hb.2.2.2.2.2.2]; exact hfr)
    refine ⟨?_, fun _ => hfr, c.symm⟩
    unfold fillS
    rw [hm]
    refine J.m_eq rfl (fun x hx => ?_)
    rcases filL_in hx with e | e
    · rw [e]; exact hfr
    · rw [set_l] at e; exact Iw.tr x e
  · rw [if_neg c, if_neg c]
    exact ⟨Iw, fun q => absurd q c, rfl⟩
noncomputable def lkV (s : E.Sc) (v : Nat → Int) (a : Int) (pg : Nat) (wr : Bool) : Nat → Int := if ((T.pk a pg s.l).2.1 && alw wr (T.pk a pg s.l).1) = true then v else wkV v pg wr
theorem Iv.look (I : Iv R S v) (h : Hw) (a : Int) {pg : Nat} (hp : pg < 32) (wr : Bool) : Iv R ((lookS h S.1 a 0 pg wr).1, S.2) (lkV S.1 v a pg wr) ∧ ((lookS h S.1 a 0 pg wr).2.2.2 = 0 → Fr (lookS h S.1 a 0 pg wr).2.1.f) := by
  unfold lookS lkV
  by_cases c : ((T.pk a pg S.1.l).2.1 && alw wr (T.pk a pg S.1.l).1) = true
  · rw [if_pos c, if_pos c]
    exact ⟨I.m_eq rfl (fun x hx => I.tr x (fd_in hx)), fun _ => I.tr _ (pk_in (Bool.and_eq_true_iff.1 c).1)⟩
  · rw [if_neg c, if_neg c]
    have I1 : Iv R ({ S.1 with l := T.rmL a pg (T.fd a pg S.1.l) }, S.2) v := I.m_eq rfl (fun x hx => I.tr x (fd_in (rmL_in hx)))
    obtain ⟨w1, w2, _⟩ := I1.walk h a hp wr
    exact ⟨w1, w2⟩
noncomputable def soV (v : Nat → Int) (pg : Nat) : Nat → Int := if N.fb (v pg) 1 = true then upd v pg (drt (v pg)) else v
theorem Iv.soil (I : Iv R S v) (h : Hw) (a : Int) {pg : Nat} (hp : pg < 32) : Iv R (soilS h S.1 a 0 pg, S.2) (soV v pg) := by
  unfold soilS soil0 soV
  rw [I.has hp, if_pos rfl, I.pw pg hp]
  by_cases c : N.fb (v pg) 1 = true
  · rw [if_pos c, may_drt (I.word hp) c]
    have hb := drt_bits (I.word hp)
    have hm := may_drt (I.word hp) c
    have J := I.set hp (x := drt (v pg)) (lf_word hm) (fun _ => by rw [hb.2.2.2.2.2.2]; exact I.fr pg hp c)
    refine J.m_eq rfl (mrkL_fr ?_)
    show ∀ x ∈ (setS S.1 0 pg true (drt (v pg))).l, Fr x.f
    rw [set_l]
    exact I.tr
  · have c' : N.fb (v pg) 1 = false := by simpa using c
    rw [if_neg c, may_drt_no c']
    have e : ∀ x, setS S.1 0 pg false x = S.1 := fun x => by unfold setS; rfl
    rw [e]
    exact I.m_eq rfl (mrkL_fr I.tr)
end
end Go.Proofs.YtgljdbabagdhlaaGreat.Pg
namespace Go.Proofs.YtgljdbabagdhlaaGreat.Pg
open P E Go.ChangeShapes Go.WideShapes Go.ChangeAt Go.RowKit
set_option linter.unusedVariables false
set_option maxRecDepth 8192
def Zr (lo hi : Int) (s : E.Sc) : Prop := lo ≤ s.z ∧ s.z ≤ hi
theorem tc_us (a b : Bool) : 1 ≤ tc (hwOf us).co a b ∧ tc (hwOf us).co a b ≤ 10 := by
  cases a <;> cases b <;> decide
theorem Zr.tou {lo hi : Int} {s : E.Sc} (Z : Zr lo hi s) (h0 : 0 ≤ lo) (h1 : hi ≤ 1000) (pa : Nat) : Zr (lo + 1) (hi + 10) (tou (hwOf us) s pa) := by
  have hc := tc_us (hA (hwOf us) s pa) (hB (hwOf us) s pa)
  have hz := Z
  unfold Zr at hz ⊢
  show lo + 1 ≤ IntKind.u64.wrap (s.z + tc (hwOf us).co (hA (hwOf us) s pa) (hB (hwOf us) s pa)) ∧ IntKind.u64.wrap (s.z + tc (hwOf us).co (hA (hwOf us) s pa) (hB (hwOf us) s pa)) ≤ hi + 10
  generalize tc (hwOf us).co (hA (hwOf us) s pa) (hB (hwOf us) s pa) = k at *
  have e : IntKind.u64.wrap (s.z + k) = s.z + k := by
    simp only [IntKind.wrap, IntKind.bits, IntKind.signed]
    exact Int.emod_eq_of_lt (by omega) (by omega)
  rw [e]
  omega
theorem Zr.fold : ∀ {l : List Nat} {lo hi : Int} {s : E.Sc}, Zr lo hi s → 0 ≤ lo → hi + 10 * (l.length : Int) ≤ 1000 → Zr (lo + l.length) (hi + 10 * (l.length : Int)) (l.foldl (E.tou (hwOf us)) s)
  | [], lo, hi, s, Z, _, _ => by simpa using Z
  | a :: l, lo, hi, s, Z, h0, h1 => by
    simp only [List.length_cons] at h1
    have := Zr.fold (l := l) (Z.tou h0 (by omega) a) (by omega) (by omega)
    rw [List.foldl_cons]
    unfold Zr at this ⊢
    simp only [List.length_cons]
    omega
theorem tan_len (W : Nat → Nat → Int) (r pg : Nat) : ∀ n, (tan W r pg n).length ≤ n
  | 0 => Nat.le_refl 0
  | n + 1 => by
    have := tan_len W r pg n
    unfold tan
    split <;> simp <;> omega
theorem tan_pos (W : Nat → Nat → Int) (r : Nat) {pg : Nat} (hp : pg < 1048576) : ∀ n, 1 ≤ (tan W r pg (n + 1)).length
  | 0 => by rw [tan_some (tb_root W r hp)]; simp
  | n + 1 => by
    have := tan_pos W r hp n
    have e : tan W r pg (n + 1 + 1) = tan W r pg (n + 1) ++ (match tb W r (n + 1) (nu pg (n + 1)) with | some f => [f * 256 + nu pg (n + 1 + 1) % 32 * 8] | none => []) := rfl
    rw [e, List.length_append]
    omega
theorem Zr.wide {lo hi lo' hi' : Int} {s : E.Sc} (Z : Zr lo hi s) (h1 : lo' ≤ lo) (h2 : hi ≤ hi') : Zr lo' hi' s := ⟨Int.le_trans h1 Z.1, Int.le_trans Z.2 h2⟩
theorem Zr.z_eq {lo hi : Int} {s s' : E.Sc} (Z : Zr lo hi s) (e : s'.z = s.z) : Zr lo hi s' := by unfold Zr; rw [e]; exact Z
theorem set_z (s : E.Sc) (r pg : Nat) (my : Bool) (v : Int) : (setS s r pg my v).z = s.z := by
  unfold setS
  split <;> rfl
theorem wk_z {s : E.Sc} (Z : Zr 0 0 s) (r : Nat) {pg : Nat} (hp : pg < 1048576) : Zr 1 40 (wkS (hwOf us) s r pg) := by
  have h4 := tan_len (wd s.m) r pg 4
  have h1 : 1 ≤ (tan (wd s.m) r pg 4).length := tan_pos (wd s.m) r hp 3
  have := Zr.fold (l := ta (wd s.m) r pg) Z (Int.le_refl 0) (by unfold ta; omega)
  unfold ta at this
  exact this.wide (by omega) (by omega)
theorem walk_z {s : E.Sc} (Z : Zr 0 0 s) (a : Int) (r : Nat) {pg : Nat} (hp : pg < 1048576) (wr : Bool) : Zr 1 40 (walkS (hwOf us) s a r pg wr).1 := by
  unfold walkS
  split
  · exact (wk_z Z r hp).z_eq (by unfold fillS; exact set_z _ _ _ _ _)
  · exact wk_z Z r hp
theorem look_z {s : E.Sc} (Z : Zr 0 0 s) (a : Int) (r : Nat) {pg : Nat} (hp : pg < 1048576) (wr : Bool) : Zr 0 40 (lookS (hwOf us) s a r pg wr).1 ∧ ((lookS (hwOf us) s a r pg wr).2.2.2 ≠ 0 → Zr 1 40 (lookS (hwOf us) s a r pg wr).1) := by
  unfold lookS
  split
  · exact ⟨(Z.z_eq rfl).wide (Int.le_refl 0) (by decide), fun q => absurd rfl q⟩
  · have := walk_z (s := { s with l := T.rmL a pg (T.fd a pg s.l) }) Z a r hp wr
    exact ⟨this.wide (by decide) (Int.le_refl _), fun _ => this⟩
theorem soil_z {lo hi : Int} {s : E.Sc} (Z : Zr lo hi s) (h0 : 0 ≤ lo) (h1 : hi ≤ 1000) (a : Int) (r pg : Nat) : Zr lo (hi + 10) (soilS (hwOf us) s a r pg) := by
  unfold soilS soil0
  split
  · exact ((Zr.tou (s := setS s r pg (mayD (pw (wd s.m) r pg)) (drt (pw (wd s.m) r pg))) (Z.z_eq (set_z _ _ _ _ _)) h0 h1 _).wide (by omega) (Int.le_refl _)).z_eq rfl
  · exact (Z.wide (Int.le_refl _) (by omega)).z_eq rfl
theorem ahead_z {s : E.Sc} (Z : Zr 0 0 s) (a : Int) (r : Nat) {pg : Nat} (hp : pg < 1048576) (wr : Bool) : Zr 0 50 (aheadS (hwOf us) s a r pg wr) := by
  unfold aheadS
  split
  · exact soil_z (look_z Z a r hp wr).1 (Int.le_refl 0) (by decide) a r pg
  · exact (look_z Z a r hp wr).1.wide (Int.le_refl 0) (by decide)
theorem done_z {s : E.Sc} (Z : Zr 0 0 s) (a : Int) (r : Nat) {pg : Nat} (hp : pg < 1048576) (wr : Bool) (pa : Nat) : Zr 1 60 (E.tou (hwOf us) (aheadS (hwOf us) s a r pg wr) pa) := (ahead_z Z a r hp wr).tou (Int.le_refl 0) (by decide) pa
section
variable {R : Nat → Prop} {S : E.Sc × Us} {v : Nat → Int}
noncomputable def ahV (h : Hw) (s : E.Sc) (v : Nat → Int) (a : Int) (pg : Nat) (wr : Bool) : Nat → Int := if (wr && !(lookS h s a 0 pg wr).2.1.d) = true then soV (lkV s v a pg wr) pg else lkV s v a pg wr
theorem Iv.ahead (I : Iv R S v) (h : Hw) (a : Int) {pg : Nat} (hp : pg < 32) (wr : Bool) : Iv R (aheadS h S.1 a 0 pg wr, S.2) (ahV h S.1 v a pg wr) := by
  unfold aheadS ahV
  split
  · exact (I.look h a hp wr).1.soil h a hp
  · exact (I.look h a hp wr).1
theorem Iv.tou (I : Iv R S v) (h : Hw) (pa : Nat) : Iv R (E.tou h S.1 pa, S.2) v := I.m_eq rfl I.tr
end
end Go.Proofs.YtgljdbabagdhlaaGreat.Pg
namespace Go.Proofs.YtgljdbabagdhlaaGreat.Pg
open P E Go.ChangeShapes Go.WideShapes Go.ChangeAt Go.RowKit
set_option linter.unusedVariables false
set_option maxRecDepth 8192
section
variable {Z : Nat → Prop} {w : World} {t c p : Nat} {S : E.Sc × Us} {m : Nat → Option Nat} {v : Nat → Int}
theorem chk_ok {m : Nat → Option Nat} {a : Int} (ha : T.okA a = true) (hm : m 0 ≠ none) : chkE m a ((0 : Nat) : Int) = 0 := by
  unfold chkE rtE
  rw [if_pos ha, if_pos]
  exact ⟨0, rfl, hm⟩
theorem hw_n : (hwOf us).n = 64 := by decide
theorem acc_load (K : Zq Z w t c p (hwOf us) (par us 0) S m) (hN : (par us 0).N * (par us 0).C ≤ (hwOf us).n) (I : Iv (fun r => m r ≠ none) S v) {a : Int} (ha : T.okA a = true) {pg o z : Nat} (hp : pg < 32) (h1 : 1 ≤ z) (h8 : z ≤ 8) (ho : o + z ≤ 256) :
    Calls Tryz.prog 11 #[.pointer (some ⟨c, 0, none⟩), .pointer (some ⟨t, 0, none⟩), .int .i64 a, .int .i64 0, .int .u64 ((pg * 256 + o : Nat) : Int), .int .i64 (z : Nat)] w fun e w' => ∃ g S' v', e = .returned (.tuple #[.agg g, .int .i64 0]) ∧ g.size = 5 ∧ Zq Z w' t c p (hwOf us) (par us 0) S' m ∧ Ky Z w w' ∧ Iv (fun r => m r ≠ none) S' v' ∧ (Zr 0 0 S.1 → Zr 1 60 S'.1) := by
  have hc := chk_ok ha I.rt
  have hp' : pg < 1048576 := by omega
  obtain ⟨J, hJ⟩ := I.look (hwOf us) a hp false
  by_cases hy : (lookS (hwOf us) S.1 a 0 pg false).2.2.2 = 0
  · obtain ⟨f, hf, f1, f2⟩ := hJ hy
    refine (mLoad_ok K I.ok hN (by rw [hw_n]; decide) a (r := 0) I.rt (by decide) hc hp' h1 h8 ho hy hf (by rw [hw_n]; omega)).mono ?_
    rintro e w' ⟨rfl, k1, k2⟩
    exact ⟨_, _, _, rfl, rfl, k1, k2, (I.ahead (hwOf us) a hp false).tou (hwOf us) _, fun Z0 => done_z Z0 a 0 hp' false _⟩
  · refine (mLoad_no K I.ok hN a (r := 0) I.rt (by decide) hc hp' h1 h8 ho hy).mono ?_
    rintro e w' ⟨rfl, k1, k2⟩
    exact ⟨_, _, _, rfl, rfl, k1, k2, J, fun Z0 => ((look_z Z0 a 0 hp' false).2 hy).wide (Int.le_refl _) (by decide)⟩
theorem acc_store (K : Zq Z w t c p (hwOf us) (par us 0) S m) (hN : (par us 0).N * (par us 0).C ≤ (hwOf us).n) (I : Iv (fun r => m r ≠ none) S v) {a : Int} (ha : T.okA a = true) {pg o z : Nat} (hp : pg < 32) (h1 : 1 ≤ z) (h8 : z ≤ 8) (ho : o + z ≤ 256) (x : Int) (x0 : 0 ≤ x) (x1 : x < 18446744073709551616) :
    Calls Tryz.prog 10 #[.pointer (some ⟨c, 0, none⟩), .pointer (some ⟨t, 0, none⟩), .int .i64 a, .int .i64 0, .int .u64 ((pg * 256 + o : Nat) : Int), .int .i64 (z : Nat), .int .u64 x] w fun e w' => ∃ g S' v', e = .returned (.tuple #[.agg g, .int .i64 0]) ∧ g.size = 5 ∧ Zq Z w' t c p (hwOf us) (par us 0) S' m ∧ Ky Z w w' ∧ Iv (fun r => m r ≠ none) S' v' ∧ (Zr 0 0 S.1 → Zr 1 60 S'.1) := by
  have hc := chk_ok ha I.rt
  have hp' : pg < 1048576 := by omega
  obtain ⟨J, hJ⟩ := I.look (hwOf us) a hp true
  by_cases hy : (lookS (hwOf us) S.1 a 0 pg true).2.2.2 = 0
  · obtain ⟨f, hf, f1, f2⟩ := hJ hy
    refine (mStore_ok K I.ok hN (by rw [hw_n]; decide) a (r := 0) I.rt (by decide) hc hp' h1 h8 ho hy hf (by rw [hw_n]; omega) x x0 x1).mono ?_
    rintro e w' ⟨rfl, k1, k2⟩
    exact ⟨_, _, _, rfl, rfl, k1, k2, ((I.ahead (hwOf us) a hp true).tou (hwOf us) (f * 256 + o)).lay f1 _, fun Z0 => (done_z Z0 a 0 hp' true _).z_eq rfl⟩
  · refine (mStore_no K I.ok hN a (r := 0) I.rt (by decide) hc hp' h1 h8 ho hy x).mono ?_
    rintro e w' ⟨rfl, k1, k2⟩
    exact ⟨_, _, _, rfl, rfl, k1, k2, J, fun Z0 => ((look_z Z0 a 0 hp' true).2 hy).wide (Int.le_refl _) (by decide)⟩
end
end Go.Proofs.YtgljdbabagdhlaaGreat.Pg
