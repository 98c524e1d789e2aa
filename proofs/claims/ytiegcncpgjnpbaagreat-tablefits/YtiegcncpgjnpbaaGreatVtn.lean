/- TableFits: where it stands, and what each of its calls leaves. -/
import Derived.Test.YtiegcncpgjnpbaaGreatVtm
import Derived.Deep.CutRange
import Derived.Deep.RegionHeldLaw
namespace Go.Proofs.YtiegcncpgjnpbaaGreat.Pg
open P E Go.ChangeShapes Go.WideShapes Go.ChangeAt Go.RowKit
set_option linter.unusedVariables false
set_option maxRecDepth 8192

structure FtOk (l : List (Int × Int)) : Prop where
  len : l.length ≤ 6
  at' : ∀ s ∈ l, (0 ≤ s.1 ∧ s.1 < 1048512) ∧ 0 ≤ s.2 ∧ s.2 < 40
theorem FtOk.nil : FtOk [] := ⟨by simp, by simp⟩
theorem ftd_ok (ys : List (Int × Int)) : FtOk (ftd ys) := ⟨ftd_len ys, fun s hs => by
  obtain ⟨x, _, rfl⟩ := List.mem_map.1 hs
  simp only
  omega⟩
theorem FtOk.may {l : List (Int × Int)} (h : FtOk l) : ∀ s ∈ l, A.mayS s = true := fun s hs => by
  have := h.at' s hs
  simp only [A.mayS, Bool.and_eq_true, decide_eq_true_eq]
  omega
theorem FtOk.fits {l : List (Int × Int)} (h : FtOk l) : ∀ s ∈ l, A.fits s := fun s hs => by
  have := h.at' s hs
  unfold A.fits
  omega
def Nr (w : World) (Z : Nat → Prop) (v : Value) (l : List (Int × Int)) : Prop := ∃ a cap, v = .slice a l.length cap ∧ (l = [] ∨ ∃ b, a = some ⟨b, 0, none⟩ ∧ Z b ∧ A.Row w b 0 l)
def Sr8 (w : World) (Z : Nat → Prop) (v : Value) (l : List (Nat × Int)) : Prop := ∃ a cap, v = .slice a l.length cap ∧ (l = [] ∨ ∃ b, a = some ⟨b, 0, none⟩ ∧ Z b ∧ b < w.heap.size ∧ ∀ (i : Nat) (x : Nat × Int), l[i]? = some x → ∀ j, j < 8 → w.cell? ⟨b, i * 8 + j, none⟩ = (mc x)[j]?)
theorem Nr.sm {w w' : World} {Z Z' : Nat → Prop} {v : Value} {l : List (Int × Int)} (h : Nr w Z v l) (s : Sm Z w w') (hs : ∀ k, Z k → k < w'.heap.size) (hz : ∀ k, Z k → Z' k) : Nr w' Z' v l := by
  obtain ⟨a, cap, rfl, h⟩ := h
  refine ⟨a, cap, rfl, h.imp id ?_⟩
  rintro ⟨b, rfl, hb, h1, h2⟩
  refine ⟨b, rfl, hz b hb, hs b hb, fun i hi => ?_⟩
  obtain ⟨q1, q2⟩ := h2 i hi
  exact ⟨(World.cell?_of_block (a := ⟨b, 0 + i * 2, none⟩) (s b hb)).trans q1, (World.cell?_of_block (a := ⟨b, 0 + i * 2 + 1, none⟩) (s b hb)).trans q2⟩
theorem Sr8.sm {w w' : World} {Z Z' : Nat → Prop} {v : Value} {l : List (Nat × Int)} (h : Sr8 w Z v l) (s : Sm Z w w') (hs : ∀ k, Z k → k < w'.heap.size) (hz : ∀ k, Z k → Z' k) : Sr8 w' Z' v l := by
  obtain ⟨a, cap, rfl, h⟩ := h
  refine ⟨a, cap, rfl, h.imp id ?_⟩
  rintro ⟨b, rfl, hb, h1, h2⟩
  exact ⟨b, rfl, hz b hb, hs b hb, fun i x hx j hj => (World.cell?_of_block (a := ⟨b, i * 8 + j, none⟩) (s b hb)).trans (h2 i x hx j hj)⟩
theorem Sr8.rd {w : World} {Z : Nat → Prop} {v : Value} {l : List (Nat × Int)} (h : Sr8 w Z v l) : Rd8 w v l := by
  obtain ⟨a, cap, rfl, h⟩ := h
  exact ⟨a, cap, rfl, h.imp id fun ⟨b, e, _, q⟩ => ⟨b, e, q⟩⟩
theorem Nr.spn {w : World} {Z : Nat → Prop} {a : Option Addr} {n cap : Nat} {l : List (Int × Int)} (h : Nr w Z (.slice a n cap) l) : Spn w a l ∧ (l = [] ∨ ∀ b off, a = some ⟨b, off, none⟩ → Z b) ∧ n = l.length := by
  obtain ⟨a', c', e, h⟩ := h
  obtain ⟨rfl, rfl, _⟩ : a = a' ∧ n = l.length ∧ cap = c' := by simpa using e
  rcases h with rfl | ⟨b, rfl, hb, h⟩
  · exact ⟨Or.inl rfl, Or.inl rfl, rfl⟩
  · exact ⟨Or.inr ⟨b, 0, rfl, h⟩, Or.inr (fun b' off e => by
      obtain ⟨rfl, _⟩ : b = b' ∧ 0 = off := by simpa using e
      exact hb), rfl⟩
theorem flat_get : ∀ (l : List (Int × Int)) (i : Nat) (h : i < l.length), (A.flat l)[i * 2]? = some (.int .i64 l[i].1) ∧ (A.flat l)[i * 2 + 1]? = some (.int .i64 l[i].2)
  | [], i, h => by simp at h
  | x :: l, 0, h => ⟨rfl, rfl⟩
  | x :: l, i + 1, h => by
    have := flat_get l i (by simpa using h)
    rw [show (i + 1) * 2 = i * 2 + 1 + 1 by omega]
    exact this
theorem Sr.nr {w : World} {base : Nat} {v : Value} {l : List (Int × Int)} {Z : Nat → Prop} (h : Sr w base v l) (hz : ∀ k, base ≤ k → k < w.heap.size → Z k) : Nr w Z v l := by
  obtain ⟨h0, ⟨rfl, hn⟩ | ⟨g, cap, cur, rfl, hb, hw, hc, hm, hs, ht⟩⟩ := h
  · have : l = [] := List.eq_nil_of_length_eq_zero hn
    subst this
    exact ⟨none, 0, rfl, Or.inl rfl⟩
  · have hlt : g < w.heap.size := (Array.getElem?_eq_some_iff.1 hw).1
    refine ⟨_, cap, rfl, Or.inr ⟨g, rfl, hz g hb hlt, hlt, fun i hi => ?_⟩⟩
    have key : ∀ j, j < 2 → w.cell? ⟨g, i * 2 + j, none⟩ = (A.flat l)[i * 2 + j]? := fun j hj => by
      rw [cell_of_row w g (i * 2 + j) cur 74 (0, 0) hw, ← Array.getElem?_toList, ← ht, List.getElem?_take_of_lt (by omega)]
    obtain ⟨q1, q2⟩ := flat_get l i hi
    rw [Nat.zero_add]
    exact ⟨(key 0 (by decide)).trans q1, (key 1 (by decide)).trans q2⟩
theorem Mr.sr8 {w : World} {base : Nat} {v : Value} {l : List (Nat × Int)} {Z : Nat → Prop} (h : Mr w base v l) (hz : ∀ k, base ≤ k → k < w.heap.size → Z k) : Sr8 w Z v l := by
  have hr := h.rd
  have hl := h.own_lt
  obtain ⟨a, cap, rfl, hr⟩ := hr
  refine ⟨a, cap, rfl, hr.imp id ?_⟩
  rintro ⟨b, rfl, q⟩
  have := hl b rfl
  exact ⟨b, rfl, hz b this.1 this.2, q⟩
structure Fr (w2 w : World) (t c p : Nat) (C : Cf) (S : E.Sc × Us) (m : Nat → Option Nat) (now xs : List (Int × Int)) (set : List (Nat × Int)) (vn vs vl : Value) (B : Nat → Prop) (n : Nat) : Prop where
  ro : ∃ Z, Ts w2 Z t c p (hwOf C) (par C 0) S m w ∧ (∀ k, B k → Z k) ∧ Nr w Z vn now ∧ Nr w Z vl xs ∧ Sr8 w Z vs set
  nv : FtOk now
  xv : FtOk xs
  sl : set.length ≤ n
  sp : ∀ x ∈ set, x.1 < 1048576
section
variable {w2 w : World} {t c p : Nat} {C : Cf} {S : E.Sc × Us} {m : Nat → Option Nat} {now xs : List (Int × Int)} {set : List (Nat × Int)} {vn vs vl : Value} {B : Nat → Prop} {n r : Nat}
theorem Fr.be (F : Fr w2 w t c p C S m now xs set vn vs vl B n) : Below w2.heap.size w2 w := by
  obtain ⟨Z, K, _⟩ := F.ro
  exact K.zt.be
theorem Fr.ts (F : Fr w2 w t c p C S m now xs set vn vs vl B n) : ∃ Z, Ts w2 Z t c p (hwOf C) (par C 0) S m w ∧ (∀ k, B k → Z k) ∧ ∀ w' S' m', Ts w2 Z t c p (hwOf C) (par C 0) S' m' w' → Sm Z w w' → Fr w2 w' t c p C S' m' now xs set vn vs vl B n ∧ Sm B w w' := by
  obtain ⟨Z, K, hB, h1, h2, h3⟩ := F.ro
  exact ⟨Z, K, hB, fun w' S' m' K' s => ⟨⟨⟨Z, K', hB, h1.sm s K'.zt.z (fun _ q => q), h2.sm s K'.zt.z (fun _ q => q), h3.sm s K'.zt.z (fun _ q => q)⟩, F.nv, F.xv, F.sl, F.sp⟩, fun k hk => s k (hB k hk)⟩⟩
theorem Fr.below {w' : World} (F : Fr w2 w t c p C S m now xs set vn vs vl B n) (b : Below w.heap.size w w') : Fr w2 w' t c p C S m now xs set vn vs vl B n := by
  obtain ⟨Z, K, hB, h⟩ := F.ts
  exact (h w' S m (K.below b) (K.zt.sm b)).1
theorem Fr.more {w' : World} (F : Fr w2 w t c p C S m now xs set vn vs vl B n) (b : Below w.heap.size w w') : ∃ Z, Ts w2 Z t c p (hwOf C) (par C 0) S m w' ∧ (∀ k, B k → Z k) ∧ (∀ k, w.heap.size ≤ k → k < w'.heap.size → Z k) ∧ Nr w' Z vn now ∧ Nr w' Z vl xs ∧ Sr8 w' Z vs set := by
  obtain ⟨Z, K, hB, h1, h2, h3⟩ := F.ro
  have s := K.zt.sm b
  have hz : ∀ k, Z k → k < w'.heap.size := fun k hk => Nat.lt_of_lt_of_le (K.zt.z k hk) b.size
  exact ⟨fun k => Z k ∨ (w.heap.size ≤ k ∧ k < w'.heap.size), K.more b (fun _ q => q), fun k hk => Or.inl (hB k hk), fun k q1 q2 => Or.inr ⟨q1, q2⟩, h1.sm s hz (fun _ => Or.inl), h2.sm s hz (fun _ => Or.inl), h3.sm s hz (fun _ => Or.inl)⟩
theorem Fr.span {w' : World} {v : Value} {ys : List (Int × Int)} (F : Fr w2 w t c p C S m now xs set vn vs vl B n) (b : Below w.heap.size w w') (h : Sr w' w.heap.size v ys) (hy : FtOk ys) : Fr w2 w' t c p C S m now ys set vn vs v B n := by
  obtain ⟨Z, K, hB, hN, h1, h2, h3⟩ := F.more b
  exact ⟨⟨Z, K, hB, h1, h.nr hN, h3⟩, F.nv, hy, F.sl, F.sp⟩
theorem Fr.row {w' : World} {v : Value} {l : List (Nat × Int)} {n' : Nat} (F : Fr w2 w t c p C S m now xs set vn vs vl B n) (b : Below w.heap.size w w') (h : Mr w' w.heap.size v l) (hl : l.length ≤ n') (hp : ∀ x ∈ l, x.1 < 1048576) : Fr w2 w' t c p C S m now xs l vn v vl B n' := by
  obtain ⟨Z, K, hB, hN, h1, h2, h3⟩ := F.more b
  exact ⟨⟨Z, K, hB, h1, h2, h.sr8 hN⟩, F.nv, F.xv, hl, hp⟩
theorem Fr.turn (F : Fr w2 w t c p C S m now xs set vn vs vl B n) : Fr w2 w t c p C S m xs xs set vl vs vl B n := by
  obtain ⟨Z, K, hB, h1, h2, h3⟩ := F.ro
  exact ⟨⟨Z, K, hB, h2, h2, h3⟩, F.xv, F.xv, F.sl, F.sp⟩
theorem Fr.make (F : Fr w2 w t c p C S m now xs set vn vs vl B n) (o : Obj) : Fr w2 (w.alloc o) t c p C S m now xs set vn vs vl (fun k => k = w.heap.size) n := by
  have b : Below w.heap.size w (w.alloc o) := (Below.refl _ _).alloc (Nat.le_refl _) _
  obtain ⟨Z, K, hB, hN, h1, h2, h3⟩ := F.more b
  exact ⟨⟨Z, K, fun k hk => hN k (by rw [hk]; exact Nat.le_refl _) (by rw [hk]; simp), h1, h2, h3⟩, F.nv, F.xv, F.sl, F.sp⟩
theorem Fr.free (F : Fr w2 w t c p C S m now xs set vn vs vl B n) : Fr w2 w t c p C S m now xs set vn vs vl (fun _ => False) n := by
  obtain ⟨Z, K, hB, h⟩ := F.ro
  exact ⟨⟨Z, K, fun _ q => q.elim, h⟩, F.nv, F.xv, F.sl, F.sp⟩
theorem Fr.up {n' : Nat} (F : Fr w2 w t c p C S m now xs set vn vs vl B n) (h : n ≤ n') : Fr w2 w t c p C S m now xs set vn vs vl B n' := ⟨F.ro, F.nv, F.xv, Nat.le_trans F.sl h, F.sp⟩
theorem Fr.shape (F : Fr w2 w t c p C S m now xs set vn vs vl B n) : (∃ a cap, vn = .slice a now.length cap) ∧ (∃ a cap, vl = .slice a xs.length cap) ∧ ∃ a cap, vs = .slice a set.length cap := by
  obtain ⟨Z, K, hB, ⟨a1, c1, e1, _⟩, ⟨a2, c2, e2, _⟩, ⟨a3, c3, e3, _⟩⟩ := F.ro
  exact ⟨⟨a1, c1, e1⟩, ⟨a2, c2, e2⟩, ⟨a3, c3, e3⟩⟩
theorem Fr.rd (F : Fr w2 w t c p C S m now xs set vn vs vl B n) : Rd8 w vs set := by
  obtain ⟨Z, K, hB, h1, h2, h3⟩ := F.ro
  exact h3.rd
theorem Fr.spn (F : Fr w2 w t c p C S m now xs set vn vs vl B n) {a : Option Addr} {k cap : Nat} (e : vl = .slice a k cap) : Spn w a xs := by
  obtain ⟨Z, K, hB, h1, h2, h3⟩ := F.ro
  subst e
  exact h2.spn.1
theorem Fr.now0 (F : Fr w2 w t c p C S m now xs set vn vs vl B n) {a : Option Addr} {k cap : Nat} (e : vn = .slice a k cap) (h0 : 0 < now.length) : ∃ b, a = some ⟨b, 0, none⟩ ∧ b < w.heap.size ∧ w.cell? ⟨b, 0, none⟩ = some (.int .i64 now[0].1) ∧ w.cell? ⟨b, 1, none⟩ = some (.int .i64 now[0].2) := by
  obtain ⟨Z, K, hB, ⟨a', c', e', h⟩, _⟩ := F.ro
  rw [e] at e'
  obtain ⟨rfl, _, _⟩ : a = a' ∧ k = now.length ∧ cap = c' := by simpa using e'
  rcases h with rfl | ⟨b, rfl, _, hb, h⟩
  · simp at h0
  · have := h 0 h0
    exact ⟨b, rfl, hb, this.1, this.2⟩
theorem Fr.tables (F : Fr w2 w t c p C S m now xs set vn vs vl B n) {a : Option Addr} {cap : Nat} (e : vl = .slice a xs.length cap) : Calls Tryz.prog 25 #[.slice a xs.length cap] w fun e w' => e = .returned (.tuple #[.int .i64 (A.total xs : Nat), .int .i64 0]) ∧ Below w.heap.size w w' := by
  have hm : xs.length ≤ maxLen := by have := F.xv.len; unfold maxLen; omega
  refine ((F.spn e).tables F.xv.fits hm).mono ?_
  rintro e w' ⟨rfl, b⟩
  have : A.tres xs = ((A.total xs : Int), 0) := by
    unfold A.tres
    rw [if_neg (by have := F.xv.len; omega), if_pos (List.all_eq_true.2 F.xv.may)]
  rw [this]
  exact ⟨rfl, b⟩
theorem Fr.count (F : Fr w2 w t c p C S m now xs set vn vs vl B n) (hr : m r ≠ none) : Calls Tryz.prog 26 #[.pointer (some ⟨t, 0, none⟩), .int .i64 (r : Nat)] w fun e w' => e = .returned (.tuple #[.int .i64 (all (pr (wd S.1.m) r) : Nat), .int .i64 0]) ∧ Below w.heap.size w w' := by
  obtain ⟨Z, K, hB, h⟩ := F.ts
  obtain ⟨X, T⟩ := K.zt.tv
  exact Count_ok K.par K.ok K.hN hr T hr
theorem Fr.fit (F : Fr w2 w t c p C S m now xs set vn vs vl B n) (L : Pl (par C 0) m r S now set) {a : Option Addr} {cap : Nat} (e : vl = .slice a xs.length cap) (hq : A.total xs ≤ (par C 0).q 3) :
    Calls Tryz.prog 27 #[.pointer (some ⟨t, 0, none⟩), .int .i64 (r : Nat), .slice a xs.length cap] w fun e w' => ∃ n1 o : Nat, e = .returned (.tuple #[.int .i64 (n1 : Nat), .int .i64 (o : Nat), .int .i64 0]) ∧ all (pr (wd S.1.m) r) + n1 = A.total xs + o ∧ n1 ≤ 100000 ∧ ∃ S', Pl (par C 0) m r S' xs (kpt xs set) ∧ all (pr (wd S'.1.m) r) = A.total xs ∧ Fr w2 w' t c p C S' m now xs set vn vs vl B n := by
  obtain ⟨Z, K, hB, h1, h2, h3⟩ := F.ro
  have hsp := h2
  rw [e] at hsp
  have hs := hsp.spn
  have hq' : cU S.2 3 4096 + A.total xs ≤ (par C 0).q 3 + all (pr (wd S.1.m) r) := by rw [L.cu]; omega
  have hq4 := K.par.qm 3
  have hle : all (pr (wd S.1.m) r) ≤ 4096 := by rw [← L.cu]; exact cU_le _ _ _
  refine (K.fit L.rt hs.1 hs.2.1 (by have := F.xv.len; omega) F.xv.may F.xv.fits hq').mono ?_
  rintro e w' ⟨n1, o, rfl, ho, hn, S', FD, K', s⟩
  exact ⟨n1, o, rfl, hn, by omega, S', L.fit FD, FD.all, ⟨Z, K', hB, h1.sm s K'.zt.z (fun _ q => q), h2.sm s K'.zt.z (fun _ q => q), h3.sm s K'.zt.z (fun _ q => q)⟩, F.nv, F.xv, F.sl, F.sp⟩
theorem Fr.fit_mem (F : Fr w2 w t c p C S m now xs set vn vs vl B n) (L : Pl (par C 0) m r S now set) {a : Option Addr} {cap : Nat} (e : vl = .slice a xs.length cap) (hq : ¬ A.total xs ≤ (par C 0).q 3) :
    Calls Tryz.prog 27 #[.pointer (some ⟨t, 0, none⟩), .int .i64 (r : Nat), .slice a xs.length cap] w fun e w' => e = .returned (.tuple #[.int .i64 0, .int .i64 0, .int .i64 4]) ∧ Fr w2 w' t c p C S m now xs set vn vs vl B n := by
  obtain ⟨Z, K, hB, h1, h2, h3⟩ := F.ro
  have hsp := h2
  rw [e] at hsp
  have hs := hsp.spn
  have hq' : ¬ cU S.2 3 4096 + A.total xs ≤ (par C 0).q 3 + all (pr (wd S.1.m) r) := by rw [L.cu]; omega
  refine (K.fit_mem L.rt hs.1 (by have := F.xv.len; omega) F.xv.may F.xv.fits hq').mono ?_
  rintro e w' ⟨rfl, K', s⟩
  exact ⟨rfl, ⟨Z, K', hB, h1.sm s K'.zt.z (fun _ q => q), h2.sm s K'.zt.z (fun _ q => q), h3.sm s K'.zt.z (fun _ q => q)⟩, F.nv, F.xv, F.sl, F.sp⟩
theorem Fr.counts (F : Fr w2 w t c p C S m now xs set vn vs vl B n) : Calls Tryz.prog 14 #[.pointer (some ⟨p, 0, none⟩)] w fun e w' => ∃ x0 x1 x2 x4 x5 x6 : Nat, e = .returned (.agg #[.int .i64 (x0 : Nat), .int .i64 (x1 : Nat), .int .i64 (x2 : Nat), .int .i64 (cU S.2 3 4096 : Nat), .int .i64 (x4 : Nat), .int .i64 (x5 : Nat), .int .i64 (x6 : Nat)]) ∧ Below w.heap.size w w' := by
  obtain ⟨Z, K, hB, h⟩ := F.ts
  obtain ⟨X, T⟩ := K.zt.tv
  obtain ⟨G, po, _⟩ := T.pool
  refine (Counts_p po).mono ?_
  rintro e w' ⟨rfl, b⟩
  exact ⟨_, _, _, _, _, _, rfl, b⟩
theorem Fr.list (F : Fr w2 w t c p C S m now xs set vn vs vl B n) (L : Pl (par C 0) m r S now set) : Calls Tryz.prog 31 #[.pointer (some ⟨t, 0, none⟩), .int .i64 (r : Nat)] w fun e w' => ∃ a cap, e = .returned (.tuple #[.slice a set.length cap, .int .i64 0]) ∧ Below w.heap.size w w' := by
  obtain ⟨Z, K, hB, h⟩ := F.ts
  obtain ⟨X, T⟩ := K.zt.tv
  refine (List_ok K.par K.ok K.hN L.rt T L.rt).mono ?_
  rintro e w' ⟨v, rfl, hv, b⟩
  obtain ⟨a, cap, rfl, _⟩ := hv.rd
  rw [L.len]
  exact ⟨a, cap, rfl, b⟩
theorem Fr.get (F : Fr w2 w t c p C S m now xs set vn vs vl B n) (L : Pl (par C 0) m r S now set) {x : Nat × Int} (hx : x ∈ set) : Calls Tryz.prog 32 #[.pointer (some ⟨t, 0, none⟩), .int .i64 (r : Nat), .int .i64 (x.1 : Nat)] w fun e w' => e = .returned (.tuple #[.agg (ec x.2).toArray, .int .i64 0]) ∧ Fr w2 w' t c p C S m now xs set vn vs vl B n := by
  obtain ⟨Z, K, hB, h⟩ := F.ts
  refine (K.get L.rt (F.sp x hx)).mono ?_
  rintro e w' ⟨rfl, K', s⟩
  rw [((L.mem x).1 hx).1]
  exact ⟨rfl, (h w' S m K' s).1⟩
theorem Fr.put (F : Fr w2 w t c p C S m now xs set vn vs vl B n) (L : Pl (par C 0) m r S now set) (h0 : 0 < now.length) (hn : 0 < now[0].2) {pg : Nat} (hpg : now[0].1 = pg) {i : Nat} (hi : i < 20) : Calls Tryz.prog 29 #[.pointer (some ⟨t, 0, none⟩), .int .i64 (r : Nat), .int .i64 (pg : Nat), .agg #[.bool false, .bool true, .bool true, .bool false, .bool false, .bool false, .int .i64 (i : Nat)]] w fun e w' => e = .returned (.int .i64 0) ∧ ∃ S', Pl (par C 0) m r S' now (wot (pg : Int) set ++ [(pg, 6 + (i : Int) * 256)]) ∧ Fr w2 w' t c p C S' m now xs set vn vs vl B n ∧ Sm B w w' := by
  obtain ⟨Z, K, hB, h⟩ := F.ts
  have hf := F.nv.at' _ (List.getElem_mem h0)
  have hmy : N.may false true true false false false (i : Nat) = true := by
    simp [N.may, N.mb]
    omega
  have hpr : pr (wd S.1.m) r 3 (pg / 32) = true := by
    rw [L.has 3 _ (by decide) (by decide), nd, A.cov_iff]
    refine ⟨now[0], List.getElem_mem h0, ?_⟩
    rw [A.ned_iff]
    show 0 < now[0].2 ∧ now[0].1 / 32 ≤ ((pg / 32 : Nat) : Int) ∧ ((pg / 32 : Nat) : Int) ≤ (now[0].1 + now[0].2 - 1) / 32
    omega
  refine (K.set L.rt (pg := pg) (by omega) false true true false false false (i : Nat) hmy hpr).mono ?_
  rintro e w' ⟨rfl, S', DS, K', s⟩
  have hw : N.lo false true true false false false + ((i : Nat) : Int) * 256 = 6 + (i : Int) * 256 := by
    rw [show N.lo false true true false false false = 6 from rfl]
  rw [hw] at DS
  obtain ⟨q1, q2⟩ := h w' S' m K' s
  exact ⟨rfl, S', L.set DS (by omega), q1, q2⟩
theorem Fr.drop (F : Fr w2 w t c p C S m now xs set vn vs vl B n) (L : Pl (par C 0) m r S now set) : Calls Tryz.prog 33 #[.pointer (some ⟨t, 0, none⟩), .int .i64 (r : Nat)] w fun e w' => ∃ k : Nat, 0 < k ∧ k ≤ 4096 ∧ e = .returned (.tuple #[.int .i64 (k : Nat), .int .i64 0]) ∧ Below w2.heap.size w2 w' ∧ Calls Tryz.prog 14 #[.pointer (some ⟨p, 0, none⟩)] w' fun e w'' => ∃ x0 x1 x2 x4 x5 x6 : Nat, e = .returned (.agg #[.int .i64 (x0 : Nat), .int .i64 (x1 : Nat), .int .i64 (x2 : Nat), .int .i64 0, .int .i64 (x4 : Nat), .int .i64 (x5 : Nat), .int .i64 (x6 : Nat)]) ∧ Below w'.heap.size w' w'' ∧ Calls Tryz.prog 34 #[.pointer (some ⟨p, 0, none⟩)] w'' fun e w3 => e = .returned (.bool true) ∧ Below w''.heap.size w'' w3 := by
  obtain ⟨Z, K, hB, h⟩ := F.ts
  have hle : all (pr (wd S.1.m) r) ≤ 4096 := by rw [← L.cu]; exact cU_le _ _ _
  have h0 : 0 < all (pr (wd S.1.m) r) := by unfold Pg.all; omega
  refine (K.drop L.rt).mono ?_
  rintro e w' ⟨rfl, S', DD, K', s⟩
  obtain ⟨z3, zw⟩ := L.drop DD
  refine ⟨_, h0, hle, rfl, K'.zt.be, ?_⟩
  obtain ⟨X, T⟩ := K'.zt.tv
  obtain ⟨G, po, _⟩ := T.pool
  refine (Counts_p po).mono ?_
  rintro e w'' ⟨rfl, b⟩
  refine ⟨_, _, _, _, _, _, by rw [show cN (par C 0) S'.2 3 = cU S'.2 3 4096 from rfl, z3]; rfl, b, ?_⟩
  refine (Whole_p (po.below b)).mono ?_
  rintro e w3 ⟨rfl, b3⟩
  rw [decide_eq_true zw]
  exact ⟨rfl, b3⟩
end
end Go.Proofs.YtiegcncpgjnpbaaGreat.Pg
namespace Go.Proofs.YtiegcncpgjnpbaaGreat.Pg
open P E Go.ChangeShapes Go.WideShapes Go.ChangeAt Go.RowKit
set_option linter.unusedVariables false
set_option maxRecDepth 8192

theorem fits_no {w : World} {a : Ad} {c : Cf} (hc : Cin w a c) (hm : may c = false) (v : Value) : Calls Tryz.prog 4 #[.agg #[.int .i64 c.F, .int .i64 c.C, .int .i64 c.W, .int .i64 c.S, .int .i64 c.V, .int .i64 c.T, .int .u64 c.k.l1, .int .u64 c.k.llc, .int .u64 c.k.mi, .int .u64 c.k.fa, .int .u64 c.k.st, .int .u64 c.k.di, .int .u64 c.sl, .int .u64 c.pd, .int .u64 c.ft, .slice a.ta c.tn a.tc, .slice a.pa c.pn a.pc], v] w fun e w' => e = .returned (.bool true) ∧ Below w.heap.size w w' := by
  have HB0 := cb_new hc
  have C2 : Hid (∀ w', Cin w' a c → Calls Tryz.prog 21 #[.agg #[.int .i64 c.F, .int .i64 c.C, .int .i64 c.W, .int .i64 c.S, .int .i64 c.V, .int .i64 c.T, .int .u64 c.k.l1, .int .u64 c.k.llc, .int .u64 c.k.mi, .int .u64 c.k.fa, .int .u64 c.k.st, .int .u64 c.k.di, .int .u64 c.sl, .int .u64 c.pd, .int .u64 c.ft, .slice a.ta c.tn a.tc, .slice a.pa c.pn a.pc]] w' (One (.bool false) w')) := fun w' h => by rw [← hm]; exact May_all h
  clear hc
  go_enter Tryz.func4, Tryz.ntmps4
  go_upto_region 1 with fail
  obtain ⟨W, hW, HB⟩ : ∃ W, (w.alloc (.cells #[.int .i64 c.F, .int .i64 c.C, .int .i64 c.W, .int .i64 c.S, .int .i64 c.V, .int .i64 c.T, .int .u64 c.k.l1, .int .u64 c.k.llc, .int .u64 c.k.mi, .int .u64 c.k.fa, .int .u64 c.k.st, .int .u64 c.k.di, .int .u64 c.sl, .int .u64 c.pd, .int .u64 c.ft, .slice a.ta c.tn a.tc, .slice a.pa c.pn a.pc] 28)) = W ∧ Hid (Cb w W w.heap.size a c) := ⟨_, rfl, HB0⟩
  rw [hW]
  clear hW HB0
  go_wp2_with fail
  refine (awake_any _).mono ?_
  rintro _ w1 ⟨rfl, k1⟩
  have H1 : Hid (Cb w w1 w.heap.size a c) := HB.out.below k1
  clear HB k1
  have hld := H1.out.bx.ld
  go_wp2_with (refine wpList_load_at rfl 28 (.tmp 2) rfl _ _ rfl hld ?_)
  refine (C2.out _ H1.out.ci).mono ?_
  rintro _ w2 ⟨rfl, k2⟩
  have FIN : Hid (Below w.heap.size w w2) := (H1.out.below k2).be
  clear H1 k2 C2 hld
  go_wp2
  go_ret
  exact ⟨rfl, FIN.out⟩
theorem Fr.clear {w2 w : World} {t c p : Nat} {C : Cf} {S : E.Sc × Us} {m : Nat → Option Nat} {now xs : List (Int × Int)} {set : List (Nat × Int)} {vn vs vl : Value} {B : Nat → Prop} {n : Nat} (F : Fr w2 w t c p C S m now xs set vn vs vl B n) : Fr w2 w t c p C S m now [] set vn vs (.slice none 0 0) (fun _ => False) n := by
  obtain ⟨Z, K, hB, h1, h2, h3⟩ := F.ro
  exact ⟨⟨Z, K, fun _ q => q.elim, h1, ⟨none, 0, rfl, Or.inl rfl⟩, h3⟩, F.nv, FtOk.nil, F.sl, F.sp⟩
theorem Fr.begin {w2 w : World} {t c p : Nat} {C : Cf} {S : E.Sc × Us} {m : Nat → Option Nat} (K : Ts w2 (fun _ => False) t c p (hwOf C) (par C 0) S m w) (a1 a2 : Option Addr) : Fr w2 w t c p C S m [] [] [] (.slice a1 0 0) (.slice a2 0 0) (.slice none 0 0) (fun _ => False) 0 :=
  ⟨⟨_, K, fun _ q => q, ⟨a1, 0, rfl, Or.inl rfl⟩, ⟨none, 0, rfl, Or.inl rfl⟩, ⟨a2, 0, rfl, Or.inl rfl⟩⟩, FtOk.nil, FtOk.nil, Nat.le_refl _, by simp⟩
structure Fo1 (P : Par) (m : Nat → Option Nat) (r : Nat) (S S' : E.Sc × Us) (now xs : List (Int × Int)) (set : List (Nat × Int)) (n1 o g : Nat) : Prop where
  cu : cU S'.2 3 4096 = all (pr (wd S'.1.m) r)
  nb : n1 ≤ 100000
  ob : o ≤ 200000
  al : all (pr (wd S.1.m) r) ≤ 4096
  al' : all (pr (wd S'.1.m) r) ≤ 4096
  w : (g = 0 ∧ all (pr (wd S.1.m) r) + n1 = all (pr (wd S'.1.m) r) + o ∧ all (pr (wd S'.1.m) r) = A.total xs ∧ Pl P m r S' xs (kpt xs set)) ∨ (g = 4 ∧ all (pr (wd S'.1.m) r) = all (pr (wd S.1.m) r) ∧ P.q 3 < A.total xs ∧ Pl P m r S' now set)
theorem Fr.fit1 {w2 w : World} {t c p : Nat} {C : Cf} {S : E.Sc × Us} {m : Nat → Option Nat} {now xs : List (Int × Int)} {set : List (Nat × Int)} {vn vs vl : Value} {B : Nat → Prop} {n r : Nat} (F : Fr w2 w t c p C S m now xs set vn vs vl B n) (L : Pl (par C 0) m r S now set) {a : Option Addr} {cap : Nat} (e : vl = .slice a xs.length cap) :
    Calls Tryz.prog 27 #[.pointer (some ⟨t, 0, none⟩), .int .i64 (r : Nat), .slice a xs.length cap] w fun e w' => ∃ n1 o g : Nat, e = .returned (.tuple #[.int .i64 (n1 : Nat), .int .i64 (o : Nat), .int .i64 (g : Nat)]) ∧ ∃ S', Fo1 (par C 0) m r S S' now xs set n1 o g ∧ Fr w2 w' t c p C S' m now xs set vn vs vl B n := by
  have hle : all (pr (wd S.1.m) r) ≤ 4096 := by rw [← L.cu]; exact cU_le _ _ _
  by_cases hq : A.total xs ≤ (par C 0).q 3
  · refine (F.fit L e hq).mono ?_
    rintro e w' ⟨n1, o, rfl, h1, h2, S', L', h3, F'⟩
    have hle' : all (pr (wd S'.1.m) r) ≤ 4096 := by rw [← L'.cu]; exact cU_le _ _ _
    exact ⟨n1, o, 0, rfl, S', ⟨L'.cu, h2, by omega, hle, hle', Or.inl ⟨rfl, by omega, h3, L'⟩⟩, F'⟩
  · refine (F.fit_mem L e hq).mono ?_
    rintro e w' ⟨rfl, F'⟩
    exact ⟨0, 0, 4, rfl, S, ⟨L.cu, by omega, by omega, hle, hle, Or.inr ⟨rfl, rfl, by omega, L⟩⟩, F'⟩
theorem step_append_m {w : World} {ops : Array Oper} {o : Oper} {a : Act} {K : Act → World → Prop} {Q : Exit → Act → World → Prop} {E : Prop} {R : Value → World → Prop} (hgd : o.guard = none) (s x : Operand)
    (ho : o.op = .call { callee := .builtin .append, args := #[s, x], argTypes := #[64, 64] }) (vs vx : Value) (hs : a.eval s = vs) (hx : a.eval x = vx)
    (hr : ∃ v' w', (Builtin.append_ #[64, 64] o.type #[vs, vx]).run Tryz.prog w = .ok v' w' ∧ R v' w') (h : ∀ v' w', R v' w' → K (a.put o.dst v') w') :
    if Region.wanted o (yielded ops a.tmps) = true then Oper.wp Tryz.prog o a w K Q else E := by
  have hw : Region.wanted o (yielded ops a.tmps) = true := by simp [Region.wanted, hgd]
  rw [if_pos hw]
  obtain ⟨v', w', hr, hR⟩ := hr
  unfold Oper.wp execOp
  simp only [ho, resolve, invoke, builtin, Sem.run_bind, Sem.run_pure, Result.andThen_ok, List.map_toArray, List.map_cons, List.map_nil, hs, hx, hr]
  exact h v' w' hR
theorem app_m {W : World} {base : Nat} {v : Value} {l : List (Nat × Int)} {x : Nat × Int} {M : List Value} (h : Mr W base v l) (hb : base ≤ W.heap.size) (hM : mc x = M) (g : Nat) (hc : ∀ j u, M[j]? = some u → W.cell? ((⟨g, 0, none⟩ : Addr).add j) = some u) (hle : l.length ≤ 4096) (ty : TypeId) :
    ∃ v' w', (Builtin.append_ #[64, 64] ty #[v, .slice (some ⟨g, 0, none⟩) 1 1]).run Tryz.prog W = .ok v' w' ∧ (Mr w' base v' (l ++ [x]) ∧ W.grownBy w' v.ownBlock) := by
  obtain ⟨i0, hi0, hz0, hz1, hz2⟩ := info_parts Tryz.infoM
  have hl8 : M.length = 8 := by rw [← hM]; rfl
  have h1 : ∀ u ∈ M, u.oneCell' = true := by
    rw [← hM]
    intro u hu
    simp only [mc, ec, List.mem_cons, List.not_mem_nil, or_false] at hu
    rcases hu with rfl | rfl | rfl | rfl | rfl | rfl | rfl | rfl <;> rfl
  obtain ⟨v', w', hr, ho, hg, _⟩ := run_append_own W base 64 ty 76 i0 _ 8 24 Tryz.underlying64 hi0 hz0 hz1 hz2 rfl (by decide) v l.length (enM l) h ⟨g, 0, none⟩ 1 1 M (by rw [hl8]) hc h1 (by unfold maxLen; omega) (by omega) hb
  refine ⟨v', w', hr, ?_, hg⟩
  unfold Mr
  rw [enM_snoc, List.length_append, List.length_singleton, hM]
  exact ho
end Go.Proofs.YtiegcncpgjnpbaaGreat.Pg
