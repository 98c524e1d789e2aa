/- SlabFrames: what is kept from call to call; when a Take is refused; no condition but those that each theorem names. -/
import Derived.Test.YtdempgjhjcjklaaGreatVFb
import Derived.Deep.RegionHeldLaw
namespace Go.Proofs.YtdempgjhjcjklaaGreat.P
open B Go.ChangeShapes Go.WideShapes Go.ChangeAt Go.RowKit
set_option linter.unusedVariables false
set_option maxRecDepth 8192

def Tm (u : Nat) (mk : Ms) (l : List Int) : Prop := l.Nodup ∧ ∀ x, x ∈ l ↔ x ∈ hel u mk
theorem Tm.len {u : Nat} {mk : Ms} {l : List Int} (h : Tm u mk l) : l.length = (hel u mk).length := ((List.perm_ext_iff_of_nodup h.1 (nodup_of_lt (hel_sorted u mk))).2 h.2).length_eq
theorem take_count {w0 w : World} {F : Nat → Prop} {p : Nat} {P : Par} {us us0 : Us} {s b u : Nat} {mk : Ms} (hs : Se w0 w F p P us s b u mk) (hlb : Lb u us0 us mk) (h0 : ∀ g, us0 g ≠ some u) {l : List Int} (ht : Tm u mk l) {a e : Nat} {us' : Us} {mk' : Ms} (h : TkS P u us mk a e us' mk') :
    (e = 0 ∧ l.length < P.q u * pn u) ∨ (e = 4 ∧ a = 0 ∧ us' = us ∧ mk' = mk ∧ ¬ l.length < P.q u * pn u) := by
  have hu := hs.sl.u4
  have hq := hs.po.va.qu u (by omega) (by omega)
  have hc := nf_cU hlb h0 4096
  have hlen : l.length = (hl u mk 4096).length := ht.len
  have hm := Nat.mul_le_mul_left (pn u) hq
  rw [hc] at hm
  rw [Nat.mul_comm (P.q u)]
  rcases h with ⟨g, i, h1, h2, rfl, rfl, rfl, rfl⟩ | ⟨h0', g, h1, h2⟩
  · have := hl_room hs.sl.ml h1.1 4096 (hs.sl.fr h1.1.1)
    exact Or.inl ⟨rfl, by omega⟩
  · have hfull := hl_full h0' 4096
    rcases h1 with ⟨rfl, t1, t2⟩ | ⟨rfl, _, rfl, t2⟩
    · left
      refine ⟨rfl, ?_⟩
      rw [hc] at t2
      have hpn := (pn_le u).1
      have := Nat.mul_lt_mul_of_pos_left t2 (show 0 < pn u by omega)
      omega
    · right
      rcases h2 with ⟨q, _⟩ | ⟨_, rfl, rfl⟩
      · cases q
      · refine ⟨rfl, rfl, rfl, rfl, ?_⟩
        rw [hc] at t2
        have := Nat.mul_le_mul_left (pn u) t2
        omega
theorem Tm.take {w0 w : World} {F : Nat → Prop} {p : Nat} {P : Par} {us : Us} {s b u : Nat} {mk : Ms} (hs : Se w0 w F p P us s b u mk) {l : List Int} (ht : Tm u mk l) {a : Nat} {us' : Us} {mk' : Ms} (h : TkS P u us mk a 0 us' mk') : Tm u mk' (l ++ [(a : Int)]) := by
  obtain ⟨h1, h2⟩ := hel_take (fun g hg => hs.sl.fr hg) hs.po.ok hs.lk h
  refine ⟨?_, fun x => ?_⟩
  · rw [List.nodup_append]
    refine ⟨ht.1, by simp, fun x hx y hy => ?_⟩
    simp only [List.mem_singleton] at hy
    rw [hy]
    intro e
    subst e
    exact h1 ((ht.2 _).1 hx)
  · rw [h2 x, List.mem_append, ht.2 x]
    simp only [List.mem_singleton]
    constructor
    · rintro (z | z)
      · exact Or.inr z
      · exact Or.inl z
    · rintro (z | z)
      · exact Or.inr z
      · exact Or.inl z
theorem Tm.give {u : Nat} {us : Us} {mk : Ms} {l : List Int} (hml : ∀ g, mk g < 2 ^ pn u) (ht : Tm u mk l) {a k : Nat} {us' : Us} {mk' : Ms} (hk : k < l.length) (hka : l.getD k 0 = (a : Int)) (h : GvS u us mk a 0 us' mk') : Tm u mk' (l.take k ++ l.drop (k + 1)) := by
  have hg := hel_give hml h
  have hlk : l[k] = (a : Int) := by
    rw [List.getD_eq_getElem?_getD, List.getElem?_eq_getElem hk] at hka
    exact hka
  have hd : l = l.take k ++ (a : Int) :: l.drop (k + 1) := by
    rw [← hlk, List.getElem_cons_drop, List.take_append_drop]
  have hn := ht.1
  rw [hd, List.nodup_append] at hn
  obtain ⟨n1, n2, n3⟩ := hn
  rw [List.nodup_cons] at n2
  refine ⟨?_, fun x => ?_⟩
  · rw [List.nodup_append]
    exact ⟨n1, n2.2, fun x hx y hy => n3 x hx y (List.mem_cons_of_mem _ hy)⟩
  · rw [hg x, ← ht.2 x]
    conv => rhs; rhs; rw [hd]
    simp only [List.mem_append, List.mem_cons]
    constructor
    · rintro (z | z)
      · exact ⟨fun e => n3 x z _ (List.mem_cons_self) e, Or.inl z⟩
      · exact ⟨fun e => n2.1 (e ▸ z), Or.inr (Or.inr z)⟩
    · rintro ⟨z1, z | z | z⟩
      · exact Or.inl z
      · exact absurd z z1
      · exact Or.inr z
theorem gv_told {u : Nat} {us : Us} {mk : Ms} {l : List Int} (hml : ∀ g, mk g < 2 ^ pn u) (ht : Tm u mk l) {k : Nat} (hk : k < l.length) : ∃ (a : Nat) (us' : Us) (mk' : Ms), l.getD k 0 = (a : Int) ∧ a < 1048576 * 256 ∧ GvS u us mk a 0 us' mk' ∧ GvS u us' mk' a 91 us' mk' := by
  have hmem : l.getD k 0 ∈ hel u mk := by
    rw [← ht.2, List.getD_eq_getElem?_getD, List.getElem?_eq_getElem hk]
    exact List.getElem_mem _
  obtain ⟨g, i, h1, h2, h3, h4⟩ := mem_hel.1 hmem
  have hpl := place_lt h2
  have hh : Hit u mk (256 * g + i * sz u) g i := ⟨h2, rfl, h3⟩
  refine ⟨256 * g + i * sz u, _, _, h4, by omega, Or.inl ⟨g, i, hh, rfl, rfl, rfl⟩, Or.inr ⟨fun g' i' z => ?_, rfl, rfl, rfl⟩⟩
  have hi16 : i < 16 := Nat.lt_of_lt_of_le h2 (pn_le u).2
  have hx : mk g < 65536 := Nat.lt_of_lt_of_le (hml g) (two_pn u)
  obtain ⟨rfl, rfl⟩ := addr_inj (u := u) (g := g) (g' := g') h2 z.1 z.2.1
  have := z.2.2
  rw [put_same, clr_bit hi16 hx] at this
  simp at this
def Ln (us0 : Us) (mk : Ms) : Prop := ∀ g, mk g ≠ 0 → us0 g = none
theorem TkS.ln {P : Par} {u : Nat} {us0 us : Us} {mk : Ms} {a e : Nat} {us' : Us} {mk' : Ms} (h : TkS P u us mk a e us' mk') (hl : Lb u us0 us mk) (hn : Ln us0 mk) : Ln us0 mk' := by
  rcases h with ⟨g, i, h1, h2, rfl, rfl, rfl, rfl⟩ | ⟨h0, g, h1, h2⟩
  · intro z hz
    by_cases q : z = g
    · rw [q]; exact hn g h1.1.1
    · rw [put_other _ _ _ _ q] at hz
      exact hn z hz
  · rcases h1 with ⟨rfl, ⟨x, t1, t2, rfl⟩, t3⟩ | ⟨rfl, t1, rfl, t3⟩
    · rcases h2 with ⟨_, _, rfl⟩ | ⟨q, _⟩
      · intro z hz
        by_cases q : z = g
        · rw [q]
          have hgn : us g = none := by rw [t2]; exact (opn_iff.1 t1.open).2
          have := hl g
          by_cases e : mk g = 0
          · rw [if_neg (fun z => z e)] at this
            rw [← this]; exact hgn
          · exact hn g e
        · rw [put_other _ _ _ _ q] at hz
          exact hn z hz
      · exact absurd rfl q
    · rcases h2 with ⟨q, _⟩ | ⟨_, _, rfl⟩
      · cases q
      · exact hn
theorem GvS.ln {u : Nat} {us0 us : Us} {mk : Ms} {a e : Nat} {us' : Us} {mk' : Ms} (h : GvS u us mk a e us' mk') (hn : Ln us0 mk) : Ln us0 mk' := by
  rcases h with ⟨g, i, h1, rfl, rfl, rfl⟩ | ⟨h0, rfl, rfl, rfl⟩
  · intro z hz
    by_cases q : z = g
    · subst q
      refine hn z (fun e => ?_)
      have := h1.2.2
      rw [e] at this
      simp at this
    · rw [put_other _ _ _ _ q] at hz
      exact hn z hz
  · exact hn
theorem tm_nil {u : Nat} {us0 us : Us} {mk : Ms} (hm : ∀ g, mk g < 2 ^ pn u) (hf : ∀ g, mk g ≠ 0 → g < 4096) (h : Tm u mk []) (hl : Lb u us0 us mk) : us = us0 ∧ hel u mk = [] := by
  have he : hel u mk = [] := by
    cases e : hel u mk with
    | nil => rfl
    | cons x r => exact absurd ((h.2 x).2 (by rw [e]; exact List.mem_cons_self)) (by simp)
  refine ⟨?_, he⟩
  have h0 : ∀ g, mk g = 0 := fun g => by
    by_cases q : mk g = 0
    · exact q
    · obtain ⟨x, hx⟩ := List.exists_mem_of_length_pos (adr_pos (g := g) (hm g) q)
      obtain ⟨i, i1, i2, rfl⟩ := mem_adr.1 hx
      exact absurd ((h.2 _).2 (mem_hel.2 ⟨g, i, hf g q, i1, i2, rfl⟩)) (by simp)
  funext g
  rw [hl g, if_neg (fun z => z (h0 g))]
theorem whole_0 {us0 : Us} (h : ∀ g v, us0 g = some v → v = 1) : decide (tU us0 = cU us0 1 4096) = true := by
  have hz : ∀ u, u ≠ 1 → cU us0 u 4096 = 0 := fun u hu => by
    by_cases e : cU us0 u 4096 = 0
    · exact e
    · obtain ⟨g, _, hg⟩ := cU_pos (us := us0) (u := u) (n := 4096) (by omega)
      exact absurd (h g u hg) hu
  rw [decide_eq_true_eq]
  unfold tU
  rw [hz 2 (by omega), hz 3 (by omega), hz 4 (by omega), hz 5 (by omega), hz 6 (by omega)]
  simp only [Nat.add_zero]
theorem Iu.row {w : World} {base : Nat} {v : Value} {l : List Int} (h : Iu w base v l) (hp : 0 < l.length) : ∃ g c, v = .slice (some ⟨g, 0, none⟩) l.length c ∧ l.length ≤ c ∧ ∀ i x, l[i]? = some x → w.cell? ⟨g, i, none⟩ = some (.int .u64 x) := by
  rcases h.2 with ⟨_, h2⟩ | ⟨g, cap, cur, h1, h2, h3, h4, h5, h6, h7⟩
  · omega
  · refine ⟨g, cap, h1, h4, fun i x hx => ?_⟩
    have hi := (List.getElem?_eq_some_iff.1 hx).1
    rw [cell_of_row w g i _ _ (0, 0) h3]
    have e1 : (cur.toList.take (l.length * 1))[i]? = cur.toList[i]? := by rw [List.getElem?_take]; simp [hi]
    rw [h7] at e1
    rw [← Array.getElem?_toList, ← e1]
    simp [U.vs, hx]
theorem wp_append_u {w : World} {o : Oper} {a : Act} {K : Act → World → Prop} {Q : Exit → Act → World → Prop} {R : Value → World → Prop} (s x : Operand)
    (ho : o.op = .call { callee := .builtin .append, args := #[s, x], argTypes := #[55, 55] }) (vs vx : Value) (hs : a.eval s = vs) (hx : a.eval x = vx)
    (hr : ∃ v' w', (Builtin.append_ #[55, 55] o.type #[vs, vx]).run Tryz.prog w = .ok v' w' ∧ R v' w') (h : ∀ v' w', R v' w' → K (a.put o.dst v') w') : o.wp Tryz.prog a w K Q := by
  obtain ⟨v', w', hr, hR⟩ := hr
  unfold Oper.wp execOp
  simp only [ho, resolve, invoke, builtin, Sem.run_bind, Sem.run_pure, Result.andThen_ok, List.map_toArray, List.map_cons, List.map_nil, hs, hx, hr]
  exact h v' w' hR
theorem step_append_u {w : World} {ops : Array Oper} {o : Oper} {a : Act} {K : Act → World → Prop} {Q : Exit → Act → World → Prop} {E : Prop} {R : Value → World → Prop} (hgd : o.guard = none) (s x : Operand)
    (ho : o.op = .call { callee := .builtin .append, args := #[s, x], argTypes := #[55, 55] }) (vs vx : Value) (hs : a.eval s = vs) (hx : a.eval x = vx)
    (hr : ∃ v' w', (Builtin.append_ #[55, 55] o.type #[vs, vx]).run Tryz.prog w = .ok v' w' ∧ R v' w') (h : ∀ v' w', R v' w' → K (a.put o.dst v') w') :
    if Region.wanted o (yielded ops a.tmps) = true then Oper.wp Tryz.prog o a w K Q else E := by
  have hw : Region.wanted o (yielded ops a.tmps) = true := by simp [Region.wanted, hgd]
  rw [if_pos hw]
  exact wp_append_u s x ho vs vx hs hx hr h
theorem app_run_u {W : World} {base : Nat} {v : Value} {l1 : List Int} (h : Iu W base v l1) (hb : base ≤ W.heap.size) (b off m c : Nat) (l2 : List Int) (hm : l2.length = m) (hc : ∀ j x, l2[j]? = some x → W.cell? ⟨b, off + j, none⟩ = some (.int .u64 x)) (hle : l1.length + m ≤ 5000) (ty : TypeId) :
    ∃ v' w', (Builtin.append_ #[55, 55] ty #[v, .slice (some ⟨b, off, none⟩) m c]).run Tryz.prog W = .ok v' w' ∧ (Iu w' base v' (l1 ++ l2) ∧ W.grownBy w' v.ownBlock) := by
  obtain ⟨i0, hi0, hz0, hz1, hz2⟩ := info_parts Tryz.infoU64
  obtain ⟨v', w', hr, ho, hg, _⟩ := run_append_own W base 55 ty 22 i0 _ 1 8 Tryz.underlying55 hi0 hz0 hz1 hz2 rfl (by decide) v l1.length (U.vs l1) h ⟨b, off, none⟩ m c (U.vs l2) (by simp [U.vs]; omega) (fun j u hu => by
    simp only [U.vs, List.getElem?_map] at hu
    obtain ⟨x, hx, rfl⟩ := Option.map_eq_some_iff.1 hu
    rw [Go.WideShapes.add_plain]
    exact hc j x hx) (by intro u hu; simp only [U.vs, List.mem_map] at hu; obtain ⟨x, _, rfl⟩ := hu; rfl) (by unfold maxLen; omega) (by omega) hb
  refine ⟨v', w', hr, ?_, hg⟩
  unfold Iu
  rw [show U.vs (l1 ++ l2) = U.vs l1 ++ U.vs l2 by simp [U.vs], List.length_append, hm]
  exact ho
theorem iu_empty {W : World} {g base : Nat} (h : Blk W g 22 []) (hb : base ≤ g) : Iu W base (.slice (some ⟨g, 0, none⟩) 0 0) [] :=
  ⟨by simp [U.vs], Or.inr ⟨g, 0, #[], rfl, hb, h, by simp, by simp, by simp, by simp [U.vs]⟩⟩
theorem eq_is2 {w : World} {base base2 : Nat} {v v2 : Value} {l : List Int} (hl : l.length ≤ 100) (h : Is w base v l) (h2 : Is w base2 v2 l) : Calls Tryz.prog 23 #[v, v2] w (One (.bool true) w) := by
  obtain ⟨a, c, rfl, hA⟩ := h.arg
  obtain ⟨a2, c2, rfl, hA2⟩ := h2.arg
  exact EqInts_any (by omega) hA hA2
end Go.Proofs.YtdempgjhjcjklaaGreat.P
namespace Go.Proofs.YtdempgjhjcjklaaGreat.P
open B Go.ChangeShapes Go.WideShapes Go.ChangeAt Go.RowKit
set_option linter.unusedVariables false
set_option maxRecDepth 8192

structure Ti (w : World) (base : Nat) (F : Nat → Prop) (s b : Nat) (v : Value) (l : List Int) : Prop where
  is : Is w base v l
  ap : ∀ k, v.ownBlock = some k → ¬ F k ∧ k ≠ b ∧ k ≠ s
theorem Ti.kp {w w' : World} {base : Nat} {F F' : Nat → Prop} {s b : Nat} {v : Value} {l : List Int} (h : Ti w base F s b v l) (k : Kp (fun x => F x ∨ x = b) (fun x => F' x ∨ x = b) w w') : Ti w' base F' s b v l := by
  refine ⟨h.is.of_eq (fun g hg => k.block g (h.is.lt g hg).2 (fun z => ?_)), fun g hg => ⟨fun z => ?_, (h.ap g hg).2⟩⟩
  · rcases z with z | z
    · exact (h.ap g hg).1 z
    · exact (h.ap g hg).2.1 z
  · rcases k.new g (Or.inl z) with (q | q) | q
    · exact (h.ap g hg).1 q
    · exact (h.ap g hg).2.1 q
    · have := (h.is.lt g hg).2
      omega
theorem Ti.below {w w' : World} {base : Nat} {F : Nat → Prop} {s b : Nat} {v : Value} {l : List Int} (h : Ti w base F s b v l) (k : Below w.heap.size w w') : Ti w' base F s b v l := ⟨h.is.below k, h.ap⟩
theorem se_tol {w0 w w' : World} {base : Nat} {F : Nat → Prop} {p : Nat} {P : Par} {us : Us} {s b u : Nat} {mk : Ms} {v : Value} {l : List Int} {g n c : Nat} {x : Int} (h : Se w0 w F p P us s b u mk) (ht : To w base F s b v l) (hb : w0.heap.size ≤ base) (gr : w.grownBy w' v.ownBlock) (hi : Iu w' base (.slice (some ⟨g, 0, none⟩) n c) (l ++ [x])) (hv : v.ownBlock = some g ∨ w.heap.size ≤ g) :
    Se w0 w' F p P us s b u mk ∧ To w' base F s b (.slice (some ⟨g, 0, none⟩) n c) (l ++ [x]) := by
  refine ⟨h.other gr (fun k hk => ⟨Nat.le_trans hb (ht.iu.lt k hk).1, ht.ap k hk⟩), hi, fun k hk => ?_⟩
  obtain rfl : g = k := by simpa [Value.ownBlock] using hk
  rcases hv with e | e
  · exact ht.ap g e
  · refine ⟨fun z => ?_, fun z => ?_, fun z => ?_⟩
    · have := h.po.lt g z; omega
    · have := h.sl.mp.lt; omega
    · have := h.sl.lt; omega
set_option maxHeartbeats 3000000 in
theorem frames_may {w : World} {a : Ad} {c : Cf} (hc : Cin w a c) (n : Nat) (hm : may c = true) (hn : n < c.pn) (f : Nat) (hf : f < 256) {la : Option Addr} {len lc : Nat} {K W A : Nat → Int} (hl : len ≤ 9223372036854775807) (hd : Dol w la len K W A) :
    Calls Tryz.prog 4 #[.agg #[.int .i64 c.F, .int .i64 c.C, .int .i64 c.W, .int .i64 c.S, .int .i64 c.V, .int .i64 c.T, .int .u64 c.k.l1, .int .u64 c.k.llc, .int .u64 c.k.mi, .int .u64 c.k.fa, .int .u64 c.k.st, .int .u64 c.k.di, .int .u64 c.sl, .int .u64 c.pd, .int .u64 c.ft, .slice a.ta c.tn a.tc, .slice a.pa c.pn a.pc, .int .i64 n, .int .u8 f], .slice la len lc] w (One (.bool true) w) := by
  have HB0 : Hid (Bp (w.alloc (.cells #[.int .i64 c.F, .int .i64 c.C, .int .i64 c.W, .int .i64 c.S, .int .i64 c.V, .int .i64 c.T, .int .u64 c.k.l1, .int .u64 c.k.llc, .int .u64 c.k.mi, .int .u64 c.k.fa, .int .u64 c.k.st, .int .u64 c.k.di, .int .u64 c.sl, .int .u64 c.pd, .int .u64 c.ft, .slice a.ta c.tn a.tc, .slice a.pa c.pn a.pc, .int .i64 n, .int .u8 f] 30)) w.heap.size a c n f) := bp_new hc n f
  have HW0 : Hid (Below w.heap.size w (w.alloc (.cells #[.int .i64 c.F, .int .i64 c.C, .int .i64 c.W, .int .i64 c.S, .int .i64 c.V, .int .i64 c.T, .int .u64 c.k.l1, .int .u64 c.k.llc, .int .u64 c.k.mi, .int .u64 c.k.fa, .int .u64 c.k.st, .int .u64 c.k.di, .int .u64 c.sl, .int .u64 c.pd, .int .u64 c.ft, .slice a.ta c.tn a.tc, .slice a.pa c.pn a.pc, .int .i64 n, .int .u8 f] 30))) := below_bx _ _
  have C0 : Hid (∀ W, Calls Tryz.prog 8 #[] W (One (.bool true) W)) := works_any
  have HO : Hid c.Ok := may_iff.1 hm
  have HD : Hid (Dol w la len K W A) := hd
  have CU : Hid (∀ W, Calls Tryz.prog 12 #[.int .u8 f, .int .i64 0] W fun e w' => e = .returned (.int .u8 (usv f 0 : Nat)) ∧ w' = W) := fun W => use_ok f hf 0 (by omega) (by omega) W
  have hu := usv_ok f 0
  have HPN : Hid (∀ (W w0 : World), Below w0.heap.size w0 W → Cin W a c → Calls Tryz.prog 7 #[.agg #[.int .i64 c.F, .int .i64 c.C, .int .i64 c.W, .int .i64 c.S, .int .i64 c.V, .int .i64 c.T, .int .u64 c.k.l1, .int .u64 c.k.llc, .int .u64 c.k.mi, .int .u64 c.k.fa, .int .u64 c.k.st, .int .u64 c.k.di, .int .u64 c.sl, .int .u64 c.pd, .int .u64 c.ft, .slice a.ta c.tn a.tc, .slice a.pa c.pn a.pc], .int .i64 n] W fun e w' => ∃ p F, e = .returned (.tuple #[.pointer (some ⟨p, 0, none⟩), .int .i64 0]) ∧ Pe w0 w' F p (par c n) (fun _ => none)) := fun W w0 h1 h2 => new_pe' h1 h2 n hm hn
  have hq := qq_q (may_iff.1 hm) hn hu
  have hq4 : (par c n).q (usv f 0) ≤ 4096 := (par_ok (may_iff.1 hm) hn).qm _
  have hpn := pn_le (usv f 0)
  have hps := pn_sz (usv f 0)
  have hsz := sz_le (usv f 0)
  have hp1 : (n : Int) < (c.pn : Int) := by omega
  have hpl := hc.pl
  clear hc hm hd
  generalize usv f 0 = u at *
  go_enter Tryz.func4, Tryz.ntmps4
  go_upto_region 1 with fail
  obtain ⟨WB, hW, HB, HWB⟩ : ∃ WB, (w.alloc (.cells #[.int .i64 c.F, .int .i64 c.C, .int .i64 c.W, .int .i64 c.S, .int .i64 c.V, .int .i64 c.T, .int .u64 c.k.l1, .int .u64 c.k.llc, .int .u64 c.k.mi, .int .u64 c.k.fa, .int .u64 c.k.st, .int .u64 c.k.di, .int .u64 c.sl, .int .u64 c.pd, .int .u64 c.ft, .slice a.ta c.tn a.tc, .slice a.pa c.pn a.pc, .int .i64 n, .int .u8 f] 30)) = WB ∧ Hid (Bp WB w.heap.size a c n f) ∧ Hid (Below w.heap.size w WB) := ⟨_, rfl, HB0, HW0⟩
  rw [hW]
  clear hW HB0 HW0
  go_wp2_with fail
  refine (C0.out _).mono ?_
  rintro e w1 ⟨rfl, k1⟩
  have H1 : Hid (Below WB.heap.size WB w1) := k1
  have B1 : Hid (Bp w1 w.heap.size a c n f) := HB.out.below k1
  have hld := B1.out.sv.ld
  have hcn := B1.out.cn
  clear k1 C0
  go_wp2_with (refine wpList_load_at rfl 28 (.tmp 21) rfl _ _ rfl hld ?_)
  refine (HPN.out w1 WB H1.out B1.out.ci).mono ?_
  rintro e w2 ⟨p, F2, rfl, h2⟩
  have CI : Hid (Calls _ _ _ _ _) := image_pe' h2
  clear HPN h2 hld hcn H1 B1
  go_wp2_with fail
  refine CI.out.mono ?_
  rintro e w3 ⟨v3, F3, us0, rfl, h3, hu0⟩
  have H3 : Hid (Pe WB w3 F3 p (par c n) us0) := h3
  have HU0 : Hid (∀ g v, us0 g = some v → v = 1) := hu0
  have B3 : Hid (Bp w3 w.heap.size a c n f) := HB.out.below h3.be
  have hcf := B3.out.cf
  have CS : Hid (Calls _ _ _ _ _) := snew_pe h3 hu
  clear CI h3 hu0
  go_wp2_with fail
  refine (CU.out _).mono ?_
  rintro e w4 ⟨rfl, hw⟩
  obtain rfl := hw.symm
  clear hw CU hcf
  go_wp2_with fail
  refine CS.out.mono ?_
  rintro e w5 ⟨s, b, rfl, h5⟩
  have H5 : Hid (Se WB w5 F3 p (par c n) us0 s b u (fun _ => 0)) := h5
  have CF : Hid (Calls _ _ _ _ _) := Free_p h5.po
  clear CS h5 H3 B3
  go_wp2_with fail
  refine CF.out.mono ?_
  rintro e w6 ⟨vf, rfl, hI6, hb6⟩
  have H6 : Hid (Se WB w6 F3 p (par c n) us0 s b u (fun _ => 0)) := H5.out.below hb6
  have TF : Hid (Ti w6 w5.heap.size F3 s b vf (frs (par c n) us0 (par c n).k)) := ⟨hI6.below (Below.refl _ _), fun k hk => by
    have := (hI6.lt k hk).1
    refine ⟨fun z => ?_, fun z => ?_, fun z => ?_⟩
    · have := H5.out.po.lt k z; omega
    · have := H5.out.sl.mp.lt; omega
    · have := H5.out.sl.lt; omega⟩
  have B6 : Hid (Bp w6 w.heap.size a c n f) := HB.out.below H6.out.be
  obtain ⟨pb, poff, hpq, ⟨_, e0, e1, e2, e3, e4, e5, e6, e7⟩⟩ := B6.out.ci.p.at' hn
  have c16 := B6.out.sv.c16
  have c17 := B6.out.cn
  rw [hpq] at c16
  have CQ : Hid (∀ W, Calls Tryz.prog 15 #[.agg #[.slice (a.ca n) (c.pf n).n (a.cc n), .int .i64 (c.pf n).o, .int .i64 (c.pf n).u, .int .i64 (c.pf n).t, .int .i64 (c.pf n).s, .int .i64 (c.pf n).r, .int .i64 (c.pf n).d, .int .i64 (c.pf n).z], .int .u8 u] W (One (.int .i64 ((par c n).q u : Nat)) W)) := fun W => by rw [← hq]; exact quota_ok _ _ _ hu
  clear CF hI6 hb6 H5 hpq
  go_wp2_with fail
  refine (CQ.out _).mono ?_
  rintro e w7 ⟨rfl, k7⟩
  have H7 : Hid (Se WB w7 F3 p (par c n) us0 s b u (fun _ => 0)) := H6.out.below k7
  have TF7 : Hid (Ti w7 w5.heap.size F3 s b vf (frs (par c n) us0 (par c n).k)) := TF.out.below k7
  clear k7 CQ H6 TF B6 c16 c17 e0 e1 e2 e3 e4 e5 e6 e7
  go_wp2_with fail
  refine (sizes_ok hu _).mono ?_
  rintro e w8 ⟨rfl, k8⟩
  have H8 : Hid (Se WB w8 F3 p (par c n) us0 s b u (fun _ => 0)) := H7.out.below k8
  have TF8 : Hid (Ti w8 w5.heap.size F3 s b vf (frs (par c n) us0 (par c n).k)) := TF7.out.below k8
  have HBS : Hid (∃ bt, WB.heap.size ≤ bt ∧ bt ≤ w8.heap.size ∧ ∀ k, vf.ownBlock = some k → k < bt) := ⟨w8.heap.size, H8.out.be.size, Nat.le_refl _, fun k hk => (TF8.out.is.lt k hk).2⟩
  obtain ⟨bt, hbt1, hbt2, hbt3⟩ := HBS.out
  have HBT : Hid (∀ k, vf.ownBlock = some k → k < bt) := hbt3
  obtain ⟨Q, hQ⟩ : ∃ Q, (par c n).q u = Q := ⟨_, rfl⟩
  rw [hQ] at hq4 ⊢
  have HQ : Hid ((par c n).q u = Q) := hQ
  have q1' : (256 : Int) / (sz u : Int) = (pn u : Int) := by rcases use3 hu with rfl | rfl | rfl <;> rfl
  have q2' : (256 : Int).tdiv (sz u : Int) = (pn u : Int) := by rcases use3 hu with rfl | rfl | rfl <;> rfl
  have hz0 : ¬ (sz u : Int) = 0 := by omega
  obtain ⟨M, hM⟩ : ∃ M, Q * pn u = M := ⟨_, rfl⟩
  have HM : Hid ((par c n).q u * pn u = M) := by rw [hQ]; exact hM
  have hM2 : M ≤ 65536 := by rw [← hM]; exact Nat.le_trans (Nat.mul_le_mul hq4 hpn.2) (by decide)
  have hMI : (Q : Int) * (pn u : Int) = (M : Int) := by rw [← hM]; simp
  have HLB : Hid (Lb u us0 us0 (fun _ => 0)) := fun g => by simp
  have HN0 : Hid (∀ g, us0 g ≠ some u) := fun g z => by have := HU0.out g u z; omega
  have HTM : Hid (Tm u (fun _ => 0) []) := ⟨List.nodup_nil, fun x => by
    rw [mem_hel]
    constructor
    · intro z; cases z
    · rintro ⟨g, i, _, _, z, _⟩; simp at z⟩
  have HSM : Hid (∀ g, ((fun _ => 0) : Ms) g < 2 ^ pn u) := fun g => Nat.two_pow_pos _
  clear k8 H7 TF7 HBS hbt3 hQ hq
  obtain ⟨bf, hbf⟩ : ∃ bf, w5.heap.size = bf := ⟨_, rfl⟩
  rw [hbf] at TF8
  clear hbf
  obtain ⟨j0, hj0, hy0, hy1, hy2⟩ := info_parts Tryz.infoU64
  go_wp2
  clear q1' q2' hz0 hMI hps hsz hpl hp1
  go_loopw [12, 11] (fun z v wr => ∃ (k : Nat) (vv : Value) (F : Nat → Prop) (us : Us) (mk : Ms) (l : List Int), z = .int .i64 k ∧ vv = v ∧ k ≤ len ∧ k ≤ 100 ∧ bt ≤ wr.heap.size ∧ l.length ≤ k ∧ Se WB wr F p (par c n) us s b u mk ∧ To wr bt F s b v l ∧ Ti wr bf F s b vf (frs (par c n) us0 (par c n).k) ∧ Lb u us0 us mk ∧ Tm u mk l ∧ Ln us0 mk) (fun z _ _ => 100 - (B.iv z).toNat)
  case atStart => exact ⟨0, _, F3, us0, fun _ => 0, [], rfl, rfl, by omega, by omega, hbt2, by simp, H8.out, ⟨Iu.nil _ _, fun k hk => by cases hk⟩, TF8.out, HLB.out, HTM.out, fun g hg => absurd rfl hg⟩
  case round =>
    clear H8 TF8 HLB HTM HSM hbt2
    obtain ⟨k, v, F, us, mk, l, rfl, hvv, hk1, hk2, hbW0, hlk, h1, h2, h3, h4, h5, h6⟩ := hrel
    subst hvv
    have HSE0 : Hid (Se WB wr F p (par c n) us s b u mk) := h1
    have HTO0 : Hid (To wr bt F s b v l) := h2
    have HTI0 : Hid (Ti wr bf F s b vf (frs (par c n) us0 (par c n).k)) := h3
    have HLB0 : Hid (Lb u us0 us mk) := h4
    have HTM0 : Hid (Tm u mk l) := h5
    have HLN0 : Hid (Ln us0 mk) := h6
    clear h1 h2 h3 h4 h5 h6
    by_cases hkl : k < len ∧ k < 100
    · obtain ⟨hkl1, hkl2⟩ := hkl
      have hkI : (k : Int) < (len : Int) := by omega
      have hkI2 : (k : Int) < 100 := by omega
      obtain ⟨db, doff, rfl, dc0, dc1, dc2⟩ := HD.out.at' (HWB.out.trans (HSE0.out.be.mono HWB.out.size)) hkl1
      have hr := HD.out.r k
      generalize K k = kk at *
      generalize A k = aa at *
      obtain ⟨r, hrr⟩ : ∃ r : Nat, kk % 3 = r := ⟨(kk % 3).toNat, by omega⟩
      have CW : Hid (Calls Tryz.prog 17 #[.int .i64 kk, .int .i64 3] wr fun e w' => e = .returned (.int .i64 (r : Nat)) ∧ w' = wr) := by
        have := within_o kk 3 (by omega) (by omega) hr.1 hr.2.1 wr
        rw [hrr] at this
        exact this
      have HAA : Hid (0 ≤ aa ∧ aa < 18446744073709551616) := ⟨hr.2.2.2.2.1, hr.2.2.2.2.2⟩
      clear hrr hr dc1
      obtain ⟨va, vc, rfl, _⟩ := HTO0.out.iu.au
      go_wp2_with fail
      refine CW.out.mono ?_
      rintro e wq ⟨rfl, hw⟩
      obtain rfl := hw.symm
      clear hw CW dc0
      by_cases hcond : 0 < r ∨ l.length = 0
      · have CT : Hid (Calls _ _ _ _ _) := HSE0.out.take
        have HTC : Hid (∀ a e us' mk', TkS (par c n) u us mk a e us' mk' → (e = 0 ∧ l.length < M) ∨ (e = 4 ∧ a = 0 ∧ us' = us ∧ mk' = mk ∧ ¬ l.length < M)) := fun a e us' mk' h => by
          have := take_count HSE0.out HLB0.out HN0.out HTM0.out h
          rw [HM.out] at this
          exact this
        by_cases hr0 : 0 < r
        · have hr0I : (0 : Int) < (r : Int) := by omega
          go_wp2_with fail
          refine CT.out.mono ?_
          rintro e w9 ⟨a9, e9, us9, mk9, F9, rfl, t9, h9, k9⟩
          have H9 : Hid (Se WB w9 F9 p (par c n) us9 s b u mk9) := h9
          have T9 : Hid (To w9 bt F9 s b (.slice va l.length vc) l) := HTO0.out.kp k9
          have I9 : Hid (Ti w9 bf F9 s b vf (frs (par c n) us0 (par c n).k)) := HTI0.out.kp k9
          have HLB2 : Hid (Lb u us0 us9 mk9) := t9.lb HLB0.out
          have HLN2 : Hid (Ln us0 mk9) := t9.ln HLB0.out HLN0.out
          have hb9 : bt ≤ w9.heap.size := Nat.le_trans hbW0 k9.size
          have HKT : Hid (TkS (par c n) u us mk a9 e9 us9 mk9) := t9
          rcases HTC.out _ _ _ _ t9 with ⟨hez, hlt⟩ | ⟨hez, haz, huz, hmz, hge⟩
          · subst hez
            have HTM2 : Hid (Tm u mk9 (l ++ [(a9 : Int)])) := HTM0.out.take HSE0.out HKT.out
            have hltI : (l.length : Int) < (M : Int) := by omega
            have hltD : decide ((l.length : Int) < (M : Int)) = true := by simp only [decide_eq_true_eq]; exact hltI
            clear t9 h9 k9 CT HTC HSE0 HTO0 HTI0 HLB0 HTM0 HLN0 HKT
            go_wp2_with (at_builtin; refine wpList_append_lies _ rfl (.tmp 109) (.tmp 111) 55 rfl bt 22 j0 _ 1 8 Tryz.underlying55 hj0 hy0 hy1 hy2 rfl (by decide) (.slice va l.length vc) l.length (U.vs l) rfl (World.ownsRow.alloc T9.out.iu _) ⟨w9.heap.size, 0, none⟩ 1 1 [.int .u64 (a9 : Nat)] rfl rfl (cell_one_new _ _ _) (by intro u hu; simp at hu; subst hu; rfl) (by omega) (by unfold maxLen; omega) (by omega) (by simp; omega) (w9.heap.size + 1) (by simp) ?_; intro ga ka wa oa gra ata lta)
            have hgra : w9.grownBy wa (Value.slice va l.length vc).ownBlock := (World.grownBy_alloc _ _ _).trans gra
            have HN : Hid (Se WB wa F9 p (par c n) us9 s b u mk9 ∧ To wa bt F9 s b (.slice (some ⟨ga, 0, none⟩) (l.length + 1) ka) (l ++ [(a9 : Int)])) := se_tol H9.out T9.out hbt1 hgra (iu_snoc oa) (ata.imp id (fun z => by omega))
            have HSE := HN.out.1
            have HTI : Hid (Ti wa bf F9 s b vf (frs (par c n) us0 (par c n).k)) := ⟨I9.out.is.of_eq (fun g hg => hgra.block g (I9.out.is.lt g hg).2 (fun z => by
              have h1 := (T9.out.iu.lt g z.symm).1
              have h2 := HBT.out g hg
              omega)), I9.out.ap⟩
            have HSE : Hid (Se WB wa F9 p (par c n) us9 s b u mk9) := HN.out.1
            have HTO : Hid (To wa bt F9 s b (.slice (some ⟨ga, 0, none⟩) (l.length + 1) ka) (l ++ [(a9 : Int)])) := HN.out.2
            have hbW : bt ≤ wa.heap.size := Nat.le_trans hb9 hgra.size
            have hllen : (l ++ [(a9 : Int)]).length = l.length + 1 := by simp
            obtain ⟨L, hL⟩ : ∃ L, l ++ [(a9 : Int)] = L := ⟨_, rfl⟩
            rw [hL] at HTM2 HTO hllen
            rw [← hllen] at HTO ⊢
            have hlk2 : L.length ≤ k + 1 := by omega
            clear hL HN H9 T9 I9 oa gra ata lta hgra hllen
            have CH : Hid (Calls _ _ _ _ _) := HSE.out.held
            have hll := HTM2.out.len
            have HL : Hid (L.length = (hel u mk9).length) := hll
            clear hll
            go_wp2_with fail
            refine CH.out.mono ?_
            rintro e wh ⟨vh, rfl, hIh, hbh, hseh⟩
            have HSE2 : Hid (Se WB wh F9 p (par c n) us9 s b u mk9) := hseh
            have HTO2 : Hid (To wh bt F9 s b _ L) := HTO.out.below hbh
            have HTI2 : Hid (Ti wh bf F9 s b vf (frs (par c n) us0 (par c n).k)) := HTI.out.below hbh
            have CA : Hid (Calls _ _ _ _ _) := apart_any hseh.po HLB2.out HN0.out hseh.sl.ml hu hIh (by rw [← HL.out]; omega)
            obtain ⟨ha, hc', rfl, _⟩ := hIh.au
            have hbw : bt ≤ wh.heap.size := Nat.le_trans hbW hbh.size
            rw [← HL.out] at CA ⊢
            clear hIh hbh hseh CH HSE HTO HTI
            go_wp2_with fail
            refine CA.out.mono ?_
            rintro e wx ⟨rfl, kx⟩
            have HSE3 : Hid (Se WB wx F9 p (par c n) us9 s b u mk9) := HSE2.out.below kx
            have HTO3 : Hid (To wx bt F9 s b _ L) := HTO2.out.below kx
            have HTI3 : Hid (Ti wx bf F9 s b vf (frs (par c n) us0 (par c n).k)) := HTI2.out.below kx
            have hbx : bt ≤ wx.heap.size := Nat.le_trans hbw kx.size
            clear kx CA HSE2 HTO2 HTI2
            go_wp2
            go_roundw
            case rel => exact ⟨k + 1, _, F9, us9, mk9, L, by go_num, rfl, by omega, by omega, hbx, by omega, HSE3.out, HTO3.out, HTI3.out, HLB2.out, HTM2.out, HLN2.out⟩
            case measure => simp [B.iv]; omega
          · subst hez haz
            rw [huz, hmz] at H9 HLB2
            rw [hmz] at HLN2
            have HTM2 := HTM0
            have HSE := H9
            have HTO := T9
            have HTI := I9
            have hbW := hb9
            have hltI : ¬ (l.length : Int) < (M : Int) := by omega
            have hltD : decide ((l.length : Int) < (M : Int)) = false := by simp only [decide_eq_false_iff_not]; exact hltI
            clear t9 h9 k9 CT HTC HSE0 HTO0 HTI0 HLB0 HTM0 HLN0 HKT huz hmz H9 T9 I9
            have CH : Hid (Calls _ _ _ _ _) := HSE.out.held
            have hll := HTM2.out.len
            have Hl : Hid (l.length = (hel u mk).length) := hll
            clear hll
            go_wp2_with fail
            refine CH.out.mono ?_
            rintro e wh ⟨vh, rfl, hIh, hbh, hseh⟩
            have HSE2 : Hid (Se WB wh F9 p (par c n) us s b u mk) := hseh
            have HTO2 : Hid (To wh bt F9 s b _ l) := HTO.out.below hbh
            have HTI2 : Hid (Ti wh bf F9 s b vf (frs (par c n) us0 (par c n).k)) := HTI.out.below hbh
            have CA : Hid (Calls _ _ _ _ _) := apart_any hseh.po HLB2.out HN0.out hseh.sl.ml hu hIh (by rw [← Hl.out]; omega)
            obtain ⟨ha, hc', rfl, _⟩ := hIh.au
            have hbw : bt ≤ wh.heap.size := Nat.le_trans hbW hbh.size
            rw [← Hl.out] at CA ⊢
            clear hIh hbh hseh CH HSE HTO HTI
            go_wp2_with fail
            refine CA.out.mono ?_
            rintro e wx ⟨rfl, kx⟩
            have HSE3 : Hid (Se WB wx F9 p (par c n) us s b u mk) := HSE2.out.below kx
            have HTO3 : Hid (To wx bt F9 s b _ l) := HTO2.out.below kx
            have HTI3 : Hid (Ti wx bf F9 s b vf (frs (par c n) us0 (par c n).k)) := HTI2.out.below kx
            have hbx : bt ≤ wx.heap.size := Nat.le_trans hbw kx.size
            clear kx CA HSE2 HTO2 HTI2
            go_wp2
            go_roundw
            case rel => exact ⟨k + 1, _, F9, us, mk, l, by go_num, rfl, by omega, by omega, hbx, by omega, HSE3.out, HTO3.out, HTI3.out, HLB2.out, HTM2.out, HLN2.out⟩
            case measure => simp [B.iv]; omega
        · obtain rfl : r = 0 := by omega
          have hl0 : l.length = 0 := by omega
          have hl0B : ((l.length : Int) == 0) = true := by rw [hl0]; rfl
          have hl0D : decide ((l.length : Int) = 0) = true := by simp [hl0]
          clear hl0 hcond hr0
          go_wp2_with fail
          clear hl0B hl0D
          refine CT.out.mono ?_
          rintro e w9 ⟨a9, e9, us9, mk9, F9, rfl, t9, h9, k9⟩
          have H9 : Hid (Se WB w9 F9 p (par c n) us9 s b u mk9) := h9
          have T9 : Hid (To w9 bt F9 s b (.slice va l.length vc) l) := HTO0.out.kp k9
          have I9 : Hid (Ti w9 bf F9 s b vf (frs (par c n) us0 (par c n).k)) := HTI0.out.kp k9
          have HLB2 : Hid (Lb u us0 us9 mk9) := t9.lb HLB0.out
          have HLN2 : Hid (Ln us0 mk9) := t9.ln HLB0.out HLN0.out
          have hb9 : bt ≤ w9.heap.size := Nat.le_trans hbW0 k9.size
          have HKT : Hid (TkS (par c n) u us mk a9 e9 us9 mk9) := t9
          rcases HTC.out _ _ _ _ t9 with ⟨hez, hlt⟩ | ⟨hez, haz, huz, hmz, hge⟩
          · subst hez
            have HTM2 : Hid (Tm u mk9 (l ++ [(a9 : Int)])) := HTM0.out.take HSE0.out HKT.out
            have hltI : (l.length : Int) < (M : Int) := by omega
            have hltD : decide ((l.length : Int) < (M : Int)) = true := by simp only [decide_eq_true_eq]; exact hltI
            clear t9 h9 k9 CT HTC HSE0 HTO0 HTI0 HLB0 HTM0 HLN0 HKT
            go_wp2_with (at_builtin; refine wpList_append_lies _ rfl (.tmp 109) (.tmp 111) 55 rfl bt 22 j0 _ 1 8 Tryz.underlying55 hj0 hy0 hy1 hy2 rfl (by decide) (.slice va l.length vc) l.length (U.vs l) rfl (World.ownsRow.alloc T9.out.iu _) ⟨w9.heap.size, 0, none⟩ 1 1 [.int .u64 (a9 : Nat)] rfl rfl (cell_one_new _ _ _) (by intro u hu; simp at hu; subst hu; rfl) (by omega) (by unfold maxLen; omega) (by omega) (by simp; omega) (w9.heap.size + 1) (by simp) ?_; intro ga ka wa oa gra ata lta)
            have hgra : w9.grownBy wa (Value.slice va l.length vc).ownBlock := (World.grownBy_alloc _ _ _).trans gra
            have HN : Hid (Se WB wa F9 p (par c n) us9 s b u mk9 ∧ To wa bt F9 s b (.slice (some ⟨ga, 0, none⟩) (l.length + 1) ka) (l ++ [(a9 : Int)])) := se_tol H9.out T9.out hbt1 hgra (iu_snoc oa) (ata.imp id (fun z => by omega))
            have HSE := HN.out.1
            have HTI : Hid (Ti wa bf F9 s b vf (frs (par c n) us0 (par c n).k)) := ⟨I9.out.is.of_eq (fun g hg => hgra.block g (I9.out.is.lt g hg).2 (fun z => by
              have h1 := (T9.out.iu.lt g z.symm).1
              have h2 := HBT.out g hg
              omega)), I9.out.ap⟩
            have HSE : Hid (Se WB wa F9 p (par c n) us9 s b u mk9) := HN.out.1
            have HTO : Hid (To wa bt F9 s b (.slice (some ⟨ga, 0, none⟩) (l.length + 1) ka) (l ++ [(a9 : Int)])) := HN.out.2
            have hbW : bt ≤ wa.heap.size := Nat.le_trans hb9 hgra.size
            have hllen : (l ++ [(a9 : Int)]).length = l.length + 1 := by simp
            obtain ⟨L, hL⟩ : ∃ L, l ++ [(a9 : Int)] = L := ⟨_, rfl⟩
            rw [hL] at HTM2 HTO hllen
            rw [← hllen] at HTO ⊢
            have hlk2 : L.length ≤ k + 1 := by omega
            clear hL HN H9 T9 I9 oa gra ata lta hgra hllen
            have CH : Hid (Calls _ _ _ _ _) := HSE.out.held
            have hll := HTM2.out.len
            have HL : Hid (L.length = (hel u mk9).length) := hll
            clear hll
            go_wp2_with fail
            refine CH.out.mono ?_
            rintro e wh ⟨vh, rfl, hIh, hbh, hseh⟩
            have HSE2 : Hid (Se WB wh F9 p (par c n) us9 s b u mk9) := hseh
            have HTO2 : Hid (To wh bt F9 s b _ L) := HTO.out.below hbh
            have HTI2 : Hid (Ti wh bf F9 s b vf (frs (par c n) us0 (par c n).k)) := HTI.out.below hbh
            have CA : Hid (Calls _ _ _ _ _) := apart_any hseh.po HLB2.out HN0.out hseh.sl.ml hu hIh (by rw [← HL.out]; omega)
            obtain ⟨ha, hc', rfl, _⟩ := hIh.au
            have hbw : bt ≤ wh.heap.size := Nat.le_trans hbW hbh.size
            rw [← HL.out] at CA ⊢
            clear hIh hbh hseh CH HSE HTO HTI
            go_wp2_with fail
            refine CA.out.mono ?_
            rintro e wx ⟨rfl, kx⟩
            have HSE3 : Hid (Se WB wx F9 p (par c n) us9 s b u mk9) := HSE2.out.below kx
            have HTO3 : Hid (To wx bt F9 s b _ L) := HTO2.out.below kx
            have HTI3 : Hid (Ti wx bf F9 s b vf (frs (par c n) us0 (par c n).k)) := HTI2.out.below kx
            have hbx : bt ≤ wx.heap.size := Nat.le_trans hbw kx.size
            clear kx CA HSE2 HTO2 HTI2
            go_wp2
            go_roundw
            case rel => exact ⟨k + 1, _, F9, us9, mk9, L, by go_num, rfl, by omega, by omega, hbx, by omega, HSE3.out, HTO3.out, HTI3.out, HLB2.out, HTM2.out, HLN2.out⟩
            case measure => simp [B.iv]; omega
          · subst hez haz
            rw [huz, hmz] at H9 HLB2
            rw [hmz] at HLN2
            have HTM2 := HTM0
            have HSE := H9
            have HTO := T9
            have HTI := I9
            have hbW := hb9
            have hltI : ¬ (l.length : Int) < (M : Int) := by omega
            have hltD : decide ((l.length : Int) < (M : Int)) = false := by simp only [decide_eq_false_iff_not]; exact hltI
            clear t9 h9 k9 CT HTC HSE0 HTO0 HTI0 HLB0 HTM0 HLN0 HKT huz hmz H9 T9 I9
            have CH : Hid (Calls _ _ _ _ _) := HSE.out.held
            have hll := HTM2.out.len
            have Hl : Hid (l.length = (hel u mk).length) := hll
            clear hll
            go_wp2_with fail
            refine CH.out.mono ?_
            rintro e wh ⟨vh, rfl, hIh, hbh, hseh⟩
            have HSE2 : Hid (Se WB wh F9 p (par c n) us s b u mk) := hseh
            have HTO2 : Hid (To wh bt F9 s b _ l) := HTO.out.below hbh
            have HTI2 : Hid (Ti wh bf F9 s b vf (frs (par c n) us0 (par c n).k)) := HTI.out.below hbh
            have CA : Hid (Calls _ _ _ _ _) := apart_any hseh.po HLB2.out HN0.out hseh.sl.ml hu hIh (by rw [← Hl.out]; omega)
            obtain ⟨ha, hc', rfl, _⟩ := hIh.au
            have hbw : bt ≤ wh.heap.size := Nat.le_trans hbW hbh.size
            rw [← Hl.out] at CA ⊢
            clear hIh hbh hseh CH HSE HTO HTI
            go_wp2_with fail
            refine CA.out.mono ?_
            rintro e wx ⟨rfl, kx⟩
            have HSE3 : Hid (Se WB wx F9 p (par c n) us s b u mk) := HSE2.out.below kx
            have HTO3 : Hid (To wx bt F9 s b _ l) := HTO2.out.below kx
            have HTI3 : Hid (Ti wx bf F9 s b vf (frs (par c n) us0 (par c n).k)) := HTI2.out.below kx
            have hbx : bt ≤ wx.heap.size := Nat.le_trans hbw kx.size
            clear kx CA HSE2 HTO2 HTI2
            go_wp2
            go_roundw
            case rel => exact ⟨k + 1, _, F9, us, mk, l, by go_num, rfl, by omega, by omega, hbx, by omega, HSE3.out, HTO3.out, HTI3.out, HLB2.out, HTM2.out, HLN2.out⟩
            case measure => simp [B.iv]; omega
      · have hcond2 : r = 0 ∧ 0 < l.length := by omega
        obtain rfl : r = 0 := by omega
        obtain ⟨LM, hLM⟩ : ∃ LM, l.length = LM := ⟨_, rfl⟩
        have HLM : Hid (l.length = LM) := hLM
        have hl0 : 0 < LM := by omega
        obtain ⟨gv, vc', hve, hvc, hcell⟩ := HTO0.out.iu.row (by omega)
        simp only [Value.slice.injEq] at hve
        obtain ⟨rfl, _, rfl⟩ := hve
        rw [hLM] at hvc hlk HTO0 ⊢
        have hl0B : ((LM : Int) == 0) = false := by simp; omega
        have hl0I : ¬ (LM : Int) = 0 := by omega
        obtain ⟨kk, hkk⟩ : ∃ kk : Nat, aa % (LM : Int) = kk := ⟨(aa % (LM : Int)).toNat, by have := Int.emod_nonneg aa (show (LM : Int) ≠ 0 by omega); omega⟩
        have hkl : kk < LM := by have := Int.emod_lt_of_pos aa (show (0 : Int) < (LM : Int) by omega); omega
        have hkk2 : aa.tmod (LM : Int) = kk := by rw [Int.tmod_eq_emod_of_nonneg HAA.out.1]; exact hkk
        have hkI : (kk : Int) < (LM : Int) := by omega
        obtain ⟨a9, us9, mk9, hka, ha9, hg1, hg2⟩ := gv_told (us := us) HSE0.out.sl.ml HTM0.out (k := kk) (by omega)
        have hk2 : l[kk]? = some (a9 : Int) := by
          rw [List.getD_eq_getElem?_getD, List.getElem?_eq_getElem (show kk < l.length by omega)] at hka
          rw [List.getElem?_eq_getElem (show kk < l.length by omega)]
          exact congrArg some hka
        have HK2 : Hid (l[kk]? = some (a9 : Int)) := hk2
        have t1 := hcell kk _ hk2
        have CG : Hid (Calls _ _ _ _ _) := HSE0.out.give (by omega) hg1
        have HTM1 : Hid (Tm u mk9 (l.take kk ++ l.drop (kk + 1))) := HTM0.out.give HSE0.out.sl.ml (by omega) hka hg1
        have HLB2 : Hid (Lb u us0 us9 mk9) := hg1.lb HLB0.out HLN0.out
        have HLN2 : Hid (Ln us0 mk9) := hg1.ln HLN0.out
        have HG2 : Hid (GvS u us9 mk9 a9 91 us9 mk9) := hg2
        clear hLM hcell hka hg1 hg2 hk2 hcond
        go_wp2_with fail
        refine CG.out.mono ?_
        rintro e w9 ⟨F9, rfl, h9, k9⟩
        have H9 : Hid (Se WB w9 F9 p (par c n) us9 s b u mk9) := h9
        have T9 : Hid (To w9 bt F9 s b (.slice (some ⟨gv, 0, none⟩) LM vc) l) := HTO0.out.kp k9
        have I9 : Hid (Ti w9 bf F9 s b vf (frs (par c n) us0 (par c n).k)) := HTI0.out.kp k9
        have hb9 : bt ≤ w9.heap.size := Nat.le_trans hbW0 k9.size
        have t2 : w9.cell? ⟨gv, kk, none⟩ = some (.int .u64 (a9 : Nat)) := by
          obtain ⟨gv', vc', hve, _, hcell⟩ := T9.out.iu.row (by have := HLM.out; omega)
          simp only [Value.slice.injEq] at hve
          obtain ⟨e1, _, _⟩ := hve
          cases e1
          exact hcell kk _ HK2.out
        have CG2 : Hid (Calls _ _ _ _ _) := H9.out.give (by omega) HG2.out
        clear h9 k9 CG HSE0 HTO0 HTI0 HLB0 HTM0 HLN0 t1 dc2 hkk hkk2
        go_wp2_with fail
        refine CG2.out.mono ?_
        rintro e w10 ⟨F10, rfl, h10, k10⟩
        have H10 : Hid (Se WB w10 F10 p (par c n) us9 s b u mk9) := h10
        have T10 : Hid (To w10 bt F10 s b (.slice (some ⟨gv, 0, none⟩) LM vc) l) := T9.out.kp k10
        have I10 : Hid (Ti w10 bf F10 s b vf (frs (par c n) us0 (par c n).k)) := I9.out.kp k10
        have hb10 : bt ≤ w10.heap.size := Nat.le_trans hb9 k10.size
        have HCell : Hid (∀ W, Below w10.heap.size w10 W → ∀ i y, l[i]? = some y → W.cell? ⟨gv, i, none⟩ = some (.int .u64 y)) := fun W hW i y hy => by
          obtain ⟨gv', vc', hve, _, hcell⟩ := T10.out.iu.row (by have := HLM.out; omega)
          simp only [Value.slice.injEq] at hve
          obtain ⟨e1, _, _⟩ := hve
          cases e1
          exact (hW.cell (p := ⟨gv, i, none⟩) (T10.out.iu.lt gv rfl).2).trans (hcell i y hy)
        clear h10 k10 CG2 H9 T9 I9 t2 HG2
        have HTL : Hid ((l.take kk).length = kk ∧ (l.drop (kk + 1)).length = LM - (kk + 1)) := by
          show _ ∧ _
          rw [List.length_take, List.length_drop, HLM.out]
          omega
        have HLe : Hid (LM ≤ 100) := by show LM ≤ 100; omega
        have APP1 : Hid (∀ W, Below w10.heap.size w10 W → Blk W w10.heap.size 22 [] → ∀ ty, ∃ v' w', (Builtin.append_ #[55, 55] ty #[.slice (some ⟨w10.heap.size, 0, none⟩) 0 0, .slice (some ⟨gv, 0, none⟩) kk vc]).run Tryz.prog W = .ok v' w' ∧ (Iu w' w10.heap.size v' (l.take kk) ∧ Below w10.heap.size w10 w')) := fun W hW2 hs ty => by
          have hI := iu_empty hs (Nat.le_refl _)
          obtain ⟨v', w', r1, r2, r3⟩ := app_run_u hI hW2.size gv 0 kk vc (l.take kk) HTL.out.1 (fun i y hy => by
            have hi : i < kk := by have := (List.getElem?_eq_some_iff.1 hy).1; rwa [HTL.out.1] at this
            rw [List.getElem?_take_of_lt hi] at hy
            rw [Nat.zero_add]
            exact HCell.out _ hW2 i y hy) (by simp; have := HLe.out; omega) ty
          rw [List.nil_append] at r2
          exact ⟨v', w', r1, r2, hW2.grown r3 hW2.size (fun x hx => (hI.lt x hx).1)⟩
        have hkw : IntKind.i64.wrap ((kk : Int) + 1) = ((kk + 1 : Nat) : Int) := by rw [show ((kk : Int) + 1) = ((kk + 1 : Nat) : Int) by simp]; exact IntWalk.i64_in _ (by omega)
        obtain ⟨k1, hk1'⟩ : ∃ k1, kk + 1 = k1 := ⟨_, rfl⟩
        have HK1 : Hid (kk + 1 = k1) := hk1'
        rw [hk1'] at hkw
        have APP : Hid (∀ W v off2 c2, Below w10.heap.size w10 W → Iu W w10.heap.size v (l.take kk) → (off2 = k1 ∨ LM = k1) → ∀ ty, ∃ v' w', (Builtin.append_ #[55, 55] ty #[v, .slice (some ⟨gv, off2, none⟩) (LM - k1) c2]).run Tryz.prog W = .ok v' w' ∧ (Iu w' w10.heap.size v' (l.take kk ++ l.drop (kk + 1)) ∧ Below w10.heap.size w10 w')) := fun W v off2 c2 hW hI hoff ty => by
          obtain ⟨v', w', r1, r2, r3⟩ := app_run_u hI hW.size gv off2 (LM - k1) c2 (l.drop (kk + 1)) (by rw [HTL.out.2, HK1.out]) (fun i y hy => by
            have hi := (List.getElem?_eq_some_iff.1 hy).1
            rw [HTL.out.2] at hi
            rw [List.getElem?_drop] at hy
            rcases hoff with rfl | hz
            · rw [← HK1.out]
              exact HCell.out W hW _ y hy
            · have := HK1.out
              omega) (by rw [HTL.out.1]; have := HLe.out; omega) ty
          refine ⟨v', w', r1, r2, hW.grown r3 hW.size (fun x hx => (hI.lt x hx).1)⟩
        have hk1l : k1 ≤ LM := by omega
        clear hk1'
        have hk1c : k1 ≤ vc := by omega
        have hk1I : (k1 : Int) ≤ (LM : Int) := by omega
        have hkc : kk ≤ vc := by omega
        have hkcI : (kk : Int) ≤ (vc : Int) := by omega
        by_cases hcap : k1 = vc
        · have hlm : LM = k1 := by omega
          have HLk : Hid (LM = k1) := hlm
          subst hcap
          have APP0 : Hid (∀ W v, Below w10.heap.size w10 W → Iu W w10.heap.size v (l.take kk) → ∀ ty, ∃ v' w', (Builtin.append_ #[55, 55] ty #[v, .slice (some ⟨gv, 0, none⟩) 0 0]).run Tryz.prog W = .ok v' w' ∧ (Iu w' w10.heap.size v' (l.take kk ++ l.drop (kk + 1)) ∧ Below w10.heap.size w10 w')) := fun W v hW hI ty => by
            have := APP.out W v 0 0 hW hI (Or.inr HLk.out) ty
            rw [show LM - k1 = 0 by omega] at this
            exact this
          clear hlm
          go_upto_region 26 with fail
          go_region_held_law (fun W => True) (trivial)
            (first
              | (refine step_append_u rfl (.tmp 143) (.tmp 147) rfl v6 (.slice (some ⟨gv, 0, none⟩) 0 0) (by simp [Act.eval, Act.put]) (by simp [Act.eval, Act.put]) (APP0.out w6 v6 HB6.out HI6.out _) ?_; rintro v7 w7 ⟨o7, g7⟩)
              | (refine step_append_u rfl (.tmp 139) (.tmp 142) rfl (.slice (some ⟨w10.heap.size, 0, none⟩) 0 0) (.slice (some ⟨gv, 0, none⟩) kk k1) (by simp [Act.eval]) (by simp [Act.eval]) (APP1.out _ (by first | exact ((Below.refl _ _).alloc (Nat.le_refl _) _).drew | exact (Below.refl _ _).drew.alloc (Nat.le_refl _) _ | exact (Below.refl _ _).alloc (Nat.le_refl _) _) (by exact blk_new w10 [] 22) _) ?_; rintro v6 w6 ⟨hI6, hb6⟩; have HI6 : Hid (Iu w6 w10.heap.size v6 (l.take kk)) := hI6; have HB6 : Hid (Below w10.heap.size w10 w6) := hb6; clear hI6 hb6))
          obtain ⟨a7, c7, e7, _⟩ := o7.au
          subst e7
          have HTM2 : Hid (Tm u mk9 (l.take kk ++ l.drop (kk + 1))) := HTM1.out
          have HSE : Hid (Se WB w7 F10 p (par c n) us9 s b u mk9) := H10.out.below g7
          have HTO : Hid (To w7 bt F10 s b (.slice a7 (l.take kk ++ l.drop (kk + 1)).length c7) (l.take kk ++ l.drop (kk + 1))) := ⟨o7.less hb10, fun k hk => by
            have := (o7.lt k hk).1
            refine ⟨fun z => ?_, fun z => ?_, fun z => ?_⟩
            · have := H10.out.po.lt k z; omega
            · have := H10.out.sl.mp.lt; omega
            · have := H10.out.sl.lt; omega⟩
          have HTI : Hid (Ti w7 bf F10 s b vf (frs (par c n) us0 (par c n).k)) := I10.out.below g7
          have hbW : bt ≤ w7.heap.size := Nat.le_trans hb10 g7.size
          have hllen : (l.take kk ++ l.drop (kk + 1)).length ≤ k := by
            rw [List.length_append, HTL.out.1, HTL.out.2]
            omega
          obtain ⟨L, hL⟩ : ∃ L, l.take kk ++ l.drop (kk + 1) = L := ⟨_, rfl⟩
          rw [hL] at HTM2 HTO hllen ⊢
          clear hL o7 g7 H10 T10 I10 HI6 HB6 HCell APP APP1 HTM1 HTL HK2 HLM
          have CH : Hid (Calls _ _ _ _ _) := HSE.out.held
          have hll := HTM2.out.len
          have HL : Hid (L.length = (hel u mk9).length) := hll
          clear hll
          go_wp2_with fail
          refine CH.out.mono ?_
          rintro e wh ⟨vh, rfl, hIh, hbh, hseh⟩
          have HSE2 : Hid (Se WB wh F10 p (par c n) us9 s b u mk9) := hseh
          have HTO2 : Hid (To wh bt F10 s b _ L) := HTO.out.below hbh
          have HTI2 : Hid (Ti wh bf F10 s b vf (frs (par c n) us0 (par c n).k)) := HTI.out.below hbh
          have CA : Hid (Calls _ _ _ _ _) := apart_any hseh.po HLB2.out HN0.out hseh.sl.ml hu hIh (by rw [← HL.out]; omega)
          obtain ⟨ha, hc', rfl, _⟩ := hIh.au
          have hbw : bt ≤ wh.heap.size := Nat.le_trans hbW hbh.size
          rw [← HL.out] at CA ⊢
          clear hIh hbh hseh CH HSE HTO HTI
          go_wp2_with fail
          refine CA.out.mono ?_
          rintro e wx ⟨rfl, kx⟩
          have HSE3 : Hid (Se WB wx F10 p (par c n) us9 s b u mk9) := HSE2.out.below kx
          have HTO3 : Hid (To wx bt F10 s b _ L) := HTO2.out.below kx
          have HTI3 : Hid (Ti wx bf F10 s b vf (frs (par c n) us0 (par c n).k)) := HTI2.out.below kx
          have hbx : bt ≤ wx.heap.size := Nat.le_trans hbw kx.size
          clear kx CA HSE2 HTO2 HTI2
          go_wp2
          go_roundw
          case rel => exact ⟨k + 1, _, F10, us9, mk9, L, by go_num, rfl, by omega, by omega, hbx, by omega, HSE3.out, HTO3.out, HTI3.out, HLB2.out, HTM2.out, HLN2.out⟩
          case measure => simp [B.iv]; omega
        · have hcap2 : ¬ (vc - k1 = 0) := by omega
          have hcap3 : vc ≠ k1 := by omega
          go_upto_region 26 with fail
          go_region_held_law (fun W => True) (trivial)
            (first
              | (refine step_append_u rfl (.tmp 143) (.tmp 147) rfl v6 (.slice (some ⟨gv, k1, none⟩) (LM - k1) (vc - k1)) (by simp [Act.eval, Act.put]) (by simp [Act.eval, Act.put]) (APP.out w6 v6 k1 (vc - k1) HB6.out HI6.out (Or.inl rfl) _) ?_; rintro v7 w7 ⟨o7, g7⟩)
              | (refine step_append_u rfl (.tmp 139) (.tmp 142) rfl (.slice (some ⟨w10.heap.size, 0, none⟩) 0 0) (.slice (some ⟨gv, 0, none⟩) kk vc) (by simp [Act.eval]) (by simp [Act.eval]) (APP1.out _ (by first | exact ((Below.refl _ _).alloc (Nat.le_refl _) _).drew | exact (Below.refl _ _).drew.alloc (Nat.le_refl _) _ | exact (Below.refl _ _).alloc (Nat.le_refl _) _) (by exact blk_new w10 [] 22) _) ?_; rintro v6 w6 ⟨hI6, hb6⟩; have HI6 : Hid (Iu w6 w10.heap.size v6 (l.take kk)) := hI6; have HB6 : Hid (Below w10.heap.size w10 w6) := hb6; clear hI6 hb6))
          obtain ⟨a7, c7, e7, _⟩ := o7.au
          subst e7
          have HTM2 : Hid (Tm u mk9 (l.take kk ++ l.drop (kk + 1))) := HTM1.out
          have HSE : Hid (Se WB w7 F10 p (par c n) us9 s b u mk9) := H10.out.below g7
          have HTO : Hid (To w7 bt F10 s b (.slice a7 (l.take kk ++ l.drop (kk + 1)).length c7) (l.take kk ++ l.drop (kk + 1))) := ⟨o7.less hb10, fun k hk => by
            have := (o7.lt k hk).1
            refine ⟨fun z => ?_, fun z => ?_, fun z => ?_⟩
            · have := H10.out.po.lt k z; omega
            · have := H10.out.sl.mp.lt; omega
            · have := H10.out.sl.lt; omega⟩
          have HTI : Hid (Ti w7 bf F10 s b vf (frs (par c n) us0 (par c n).k)) := I10.out.below g7
          have hbW : bt ≤ w7.heap.size := Nat.le_trans hb10 g7.size
          have hllen : (l.take kk ++ l.drop (kk + 1)).length ≤ k := by
            rw [List.length_append, HTL.out.1, HTL.out.2]
            omega
          obtain ⟨L, hL⟩ : ∃ L, l.take kk ++ l.drop (kk + 1) = L := ⟨_, rfl⟩
          rw [hL] at HTM2 HTO hllen ⊢
          clear hL o7 g7 H10 T10 I10 HI6 HB6 HCell APP APP1 HTM1 HTL HK2 HLM
          have CH : Hid (Calls _ _ _ _ _) := HSE.out.held
          have hll := HTM2.out.len
          have HL : Hid (L.length = (hel u mk9).length) := hll
          clear hll
          go_wp2_with fail
          refine CH.out.mono ?_
          rintro e wh ⟨vh, rfl, hIh, hbh, hseh⟩
          have HSE2 : Hid (Se WB wh F10 p (par c n) us9 s b u mk9) := hseh
          have HTO2 : Hid (To wh bt F10 s b _ L) := HTO.out.below hbh
          have HTI2 : Hid (Ti wh bf F10 s b vf (frs (par c n) us0 (par c n).k)) := HTI.out.below hbh
          have CA : Hid (Calls _ _ _ _ _) := apart_any hseh.po HLB2.out HN0.out hseh.sl.ml hu hIh (by rw [← HL.out]; omega)
          obtain ⟨ha, hc', rfl, _⟩ := hIh.au
          have hbw : bt ≤ wh.heap.size := Nat.le_trans hbW hbh.size
          rw [← HL.out] at CA ⊢
          clear hIh hbh hseh CH HSE HTO HTI
          go_wp2_with fail
          refine CA.out.mono ?_
          rintro e wx ⟨rfl, kx⟩
          have HSE3 : Hid (Se WB wx F10 p (par c n) us9 s b u mk9) := HSE2.out.below kx
          have HTO3 : Hid (To wx bt F10 s b _ L) := HTO2.out.below kx
          have HTI3 : Hid (Ti wx bf F10 s b vf (frs (par c n) us0 (par c n).k)) := HTI2.out.below kx
          have hbx : bt ≤ wx.heap.size := Nat.le_trans hbw kx.size
          clear kx CA HSE2 HTO2 HTI2
          go_wp2
          go_roundw
          case rel => exact ⟨k + 1, _, F10, us9, mk9, L, by go_num, rfl, by omega, by omega, hbx, by omega, HSE3.out, HTO3.out, HTI3.out, HLB2.out, HTM2.out, HLN2.out⟩
          case measure => simp [B.iv]; omega
    · by_cases hkl1 : k < len
      · have hkI : (k : Int) < (len : Int) := by omega
        have hkI2 : ¬ (k : Int) < 100 := by omega
        obtain ⟨va, vc, rfl, _⟩ := HTO0.out.iu.au
        have hl100 : l.length ≤ 100 := by omega
        go_wp2
        go_loopw [17] (fun z wx => ∃ (j : Nat) (F : Nat → Prop) (us : Us) (mk : Ms), z = .int .i64 j ∧ j ≤ l.length ∧ Se WB wx F p (par c n) us s b u mk ∧ To wx bt F s b (.slice va l.length vc) l ∧ Ti wx bf F s b vf (frs (par c n) us0 (par c n).k) ∧ Lb u us0 us mk ∧ Tm u mk (l.drop j) ∧ Ln us0 mk) (fun z _ => l.length - (B.iv z).toNat)
        case atStart => exact ⟨0, F, us, mk, rfl, by omega, HSE0.out, HTO0.out, HTI0.out, HLB0.out, HTM0.out, HLN0.out⟩
        case round =>
          clear HSE0 HTO0 HTI0 HLB0 HTM0 HLN0
          obtain ⟨j, F, us, mk, rfl, hj, h1, h2, h3, h4, h5, h6⟩ := hrel
          have S1 : Hid (Se WB wr F p (par c n) us s b u mk) := h1
          have T1 : Hid (To wr bt F s b (.slice va l.length vc) l) := h2
          have I1 : Hid (Ti wr bf F s b vf (frs (par c n) us0 (par c n).k)) := h3
          have L1 : Hid (Lb u us0 us mk) := h4
          have M1 : Hid (Tm u mk (l.drop j)) := h5
          have N1 : Hid (Ln us0 mk) := h6
          clear h1 h2 h3 h4 h5 h6
          by_cases hjl : j < l.length
          · have hjI : (j : Int) < (l.length : Int) := by omega
            obtain ⟨gv, vc', hve, hvc, hcell⟩ := T1.out.iu.row (by omega)
            simp only [Value.slice.injEq] at hve
            obtain ⟨rfl, _, rfl⟩ := hve
            have hd0 : 0 < (l.drop j).length := by rw [List.length_drop]; omega
            obtain ⟨a9, us9, mk9, hka, ha9, hg1, _⟩ := gv_told (us := us) S1.out.sl.ml M1.out hd0
            have hk2 : l[j]? = some (a9 : Int) := by
              rw [List.getD_eq_getElem?_getD, List.getElem?_drop, Nat.add_zero, List.getElem?_eq_getElem hjl] at hka
              rw [List.getElem?_eq_getElem hjl]
              exact congrArg some hka
            have t1 := hcell j _ hk2
            have CG : Hid (Calls _ _ _ _ _) := S1.out.give (by omega) hg1
            have M2 : Hid (Tm u mk9 (l.drop (j + 1))) := by
              have := M1.out.give S1.out.sl.ml hd0 hka hg1
              rw [List.take_zero, List.nil_append, List.drop_drop] at this
              exact this
            have L2 : Hid (Lb u us0 us9 mk9) := hg1.lb L1.out N1.out
            have N2 : Hid (Ln us0 mk9) := hg1.ln N1.out
            clear hcell hka hg1 hk2 hd0
            go_wp2_with fail
            refine CG.out.mono ?_
            rintro e w9 ⟨F9, rfl, h9, k9⟩
            have S2 : Hid (Se WB w9 F9 p (par c n) us9 s b u mk9) := h9
            have T2 : Hid (To w9 bt F9 s b (.slice (some ⟨gv, 0, none⟩) l.length vc) l) := T1.out.kp k9
            have I2 : Hid (Ti w9 bf F9 s b vf (frs (par c n) us0 (par c n).k)) := I1.out.kp k9
            clear h9 k9 CG S1 T1 I1 L1 M1 N1
            go_wp2
            go_roundw
            case rel => exact ⟨j + 1, F9, us9, mk9, by go_num, by omega, S2.out, T2.out, I2.out, L2.out, M2.out, N2.out⟩
            case measure => simp [B.iv]; omega
          · have hjn : j = l.length := by omega
            have hjI : ¬ (j : Int) < (l.length : Int) := by omega
            obtain ⟨hus, hhel⟩ := tm_nil S1.out.sl.ml (fun g hg => S1.out.sl.fr hg) (by have := M1.out; rw [hjn, List.drop_length] at this; exact this) L1.out
            rw [hus] at S1
            have HHE : Hid (hel u mk = []) := hhel
            have CWh : Hid (Calls _ _ _ _ _) := Whole_p S1.out.po
            rw [whole_0 HU0.out] at CWh
            clear hus hhel L1 M1 N1 T1 hjn
            go_wp2_with fail
            refine CWh.out.mono ?_
            rintro e w9 ⟨rfl, k9⟩
            have S2 : Hid (Se WB w9 F p (par c n) us0 s b u mk) := S1.out.below k9
            have I2 : Hid (Ti w9 bf F s b vf (frs (par c n) us0 (par c n).k)) := I1.out.below k9
            have CF : Hid (Calls _ _ _ _ _) := Free_p S2.out.po
            clear k9 CWh S1 I1
            go_wp2_with fail
            refine CF.out.mono ?_
            rintro e w10 ⟨vn, rfl, hIn, kn⟩
            have S3 : Hid (Se WB w10 F p (par c n) us0 s b u mk) := S2.out.below kn
            have I3 : Hid (Ti w10 bf F s b vf (frs (par c n) us0 (par c n).k)) := I2.out.below kn
            have CE : Hid (Calls _ _ _ _ _) := eq_is2 (by rw [frs_len]; have := S3.out.po.ok.k2; omega) hIn I3.out.is
            clear kn hIn CF S2 I2
            go_wp2_with fail
            refine CE.out.mono ?_
            rintro e w11 ⟨rfl, k11⟩
            have S4 : Hid (Se WB w11 F p (par c n) us0 s b u mk) := S3.out.below k11
            have CH : Hid (Calls _ _ _ _ _) := S4.out.held
            clear k11 CE S3 I3
            go_wp2_with fail
            refine CH.out.mono ?_
            rintro e w12 ⟨vh, rfl, hIh, hbh, hse⟩
            obtain ⟨ha, hc', rfl, _⟩ := hIh.au
            have HBZ : Hid (Below w.heap.size w w12) := HWB.out.trans (hse.be.mono HWB.out.size)
            rw [HHE.out, List.length_nil]
            clear hIh hbh hse CH S4
            go_wp2
            go_ret
            exact ⟨rfl, HBZ.out⟩
      · have hkI : ¬ (k : Int) < (len : Int) := by omega
        obtain ⟨va, vc, rfl, _⟩ := HTO0.out.iu.au
        have hl100 : l.length ≤ 100 := by omega
        go_wp2
        go_loopw [17] (fun z wx => ∃ (j : Nat) (F : Nat → Prop) (us : Us) (mk : Ms), z = .int .i64 j ∧ j ≤ l.length ∧ Se WB wx F p (par c n) us s b u mk ∧ To wx bt F s b (.slice va l.length vc) l ∧ Ti wx bf F s b vf (frs (par c n) us0 (par c n).k) ∧ Lb u us0 us mk ∧ Tm u mk (l.drop j) ∧ Ln us0 mk) (fun z _ => l.length - (B.iv z).toNat)
        case atStart => exact ⟨0, F, us, mk, rfl, by omega, HSE0.out, HTO0.out, HTI0.out, HLB0.out, HTM0.out, HLN0.out⟩
        case round =>
          clear HSE0 HTO0 HTI0 HLB0 HTM0 HLN0
          obtain ⟨j, F, us, mk, rfl, hj, h1, h2, h3, h4, h5, h6⟩ := hrel
          have S1 : Hid (Se WB wr F p (par c n) us s b u mk) := h1
          have T1 : Hid (To wr bt F s b (.slice va l.length vc) l) := h2
          have I1 : Hid (Ti wr bf F s b vf (frs (par c n) us0 (par c n).k)) := h3
          have L1 : Hid (Lb u us0 us mk) := h4
          have M1 : Hid (Tm u mk (l.drop j)) := h5
          have N1 : Hid (Ln us0 mk) := h6
          clear h1 h2 h3 h4 h5 h6
          by_cases hjl : j < l.length
          · have hjI : (j : Int) < (l.length : Int) := by omega
            obtain ⟨gv, vc', hve, hvc, hcell⟩ := T1.out.iu.row (by omega)
            simp only [Value.slice.injEq] at hve
            obtain ⟨rfl, _, rfl⟩ := hve
            have hd0 : 0 < (l.drop j).length := by rw [List.length_drop]; omega
            obtain ⟨a9, us9, mk9, hka, ha9, hg1, _⟩ := gv_told (us := us) S1.out.sl.ml M1.out hd0
            have hk2 : l[j]? = some (a9 : Int) := by
              rw [List.getD_eq_getElem?_getD, List.getElem?_drop, Nat.add_zero, List.getElem?_eq_getElem hjl] at hka
              rw [List.getElem?_eq_getElem hjl]
              exact congrArg some hka
            have t1 := hcell j _ hk2
            have CG : Hid (Calls _ _ _ _ _) := S1.out.give (by omega) hg1
            have M2 : Hid (Tm u mk9 (l.drop (j + 1))) := by
              have := M1.out.give S1.out.sl.ml hd0 hka hg1
              rw [List.take_zero, List.nil_append, List.drop_drop] at this
              exact this
            have L2 : Hid (Lb u us0 us9 mk9) := hg1.lb L1.out N1.out
            have N2 : Hid (Ln us0 mk9) := hg1.ln N1.out
            clear hcell hka hg1 hk2 hd0
            go_wp2_with fail
            refine CG.out.mono ?_
            rintro e w9 ⟨F9, rfl, h9, k9⟩
            have S2 : Hid (Se WB w9 F9 p (par c n) us9 s b u mk9) := h9
            have T2 : Hid (To w9 bt F9 s b (.slice (some ⟨gv, 0, none⟩) l.length vc) l) := T1.out.kp k9
            have I2 : Hid (Ti w9 bf F9 s b vf (frs (par c n) us0 (par c n).k)) := I1.out.kp k9
            clear h9 k9 CG S1 T1 I1 L1 M1 N1
            go_wp2
            go_roundw
            case rel => exact ⟨j + 1, F9, us9, mk9, by go_num, by omega, S2.out, T2.out, I2.out, L2.out, M2.out, N2.out⟩
            case measure => simp [B.iv]; omega
          · have hjn : j = l.length := by omega
            have hjI : ¬ (j : Int) < (l.length : Int) := by omega
            obtain ⟨hus, hhel⟩ := tm_nil S1.out.sl.ml (fun g hg => S1.out.sl.fr hg) (by have := M1.out; rw [hjn, List.drop_length] at this; exact this) L1.out
            rw [hus] at S1
            have HHE : Hid (hel u mk = []) := hhel
            have CWh : Hid (Calls _ _ _ _ _) := Whole_p S1.out.po
            rw [whole_0 HU0.out] at CWh
            clear hus hhel L1 M1 N1 T1 hjn
            go_wp2_with fail
            refine CWh.out.mono ?_
            rintro e w9 ⟨rfl, k9⟩
            have S2 : Hid (Se WB w9 F p (par c n) us0 s b u mk) := S1.out.below k9
            have I2 : Hid (Ti w9 bf F s b vf (frs (par c n) us0 (par c n).k)) := I1.out.below k9
            have CF : Hid (Calls _ _ _ _ _) := Free_p S2.out.po
            clear k9 CWh S1 I1
            go_wp2_with fail
            refine CF.out.mono ?_
            rintro e w10 ⟨vn, rfl, hIn, kn⟩
            have S3 : Hid (Se WB w10 F p (par c n) us0 s b u mk) := S2.out.below kn
            have I3 : Hid (Ti w10 bf F s b vf (frs (par c n) us0 (par c n).k)) := I2.out.below kn
            have CE : Hid (Calls _ _ _ _ _) := eq_is2 (by rw [frs_len]; have := S3.out.po.ok.k2; omega) hIn I3.out.is
            clear kn hIn CF S2 I2
            go_wp2_with fail
            refine CE.out.mono ?_
            rintro e w11 ⟨rfl, k11⟩
            have S4 : Hid (Se WB w11 F p (par c n) us0 s b u mk) := S3.out.below k11
            have CH : Hid (Calls _ _ _ _ _) := S4.out.held
            clear k11 CE S3 I3
            go_wp2_with fail
            refine CH.out.mono ?_
            rintro e w12 ⟨vh, rfl, hIh, hbh, hse⟩
            obtain ⟨ha, hc', rfl, _⟩ := hIh.au
            have HBZ : Hid (Below w.heap.size w w12) := HWB.out.trans (hse.be.mono HWB.out.size)
            rw [HHE.out, List.length_nil]
            clear hIh hbh hse CH S4
            go_wp2
            go_ret
            exact ⟨rfl, HBZ.out⟩
end Go.Proofs.YtdempgjhjcjklaaGreat.P
namespace Go.Proofs.YtdempgjhjcjklaaGreat.P
open B Go.ChangeShapes Go.WideShapes Go.ChangeAt Go.RowKit
set_option linter.unusedVariables false
set_option maxRecDepth 8192

theorem frames_no {w : World} {a : Ad} {c : Cf} (hc : Cin w a c) (n : Int) (f : Nat) (he : fe c n ≠ 0) {la : Option Addr} {len lc : Nat} : Calls Tryz.prog 4 #[.agg #[.int .i64 c.F, .int .i64 c.C, .int .i64 c.W, .int .i64 c.S, .int .i64 c.V, .int .i64 c.T, .int .u64 c.k.l1, .int .u64 c.k.llc, .int .u64 c.k.mi, .int .u64 c.k.fa, .int .u64 c.k.st, .int .u64 c.k.di, .int .u64 c.sl, .int .u64 c.pd, .int .u64 c.ft, .slice a.ta c.tn a.tc, .slice a.pa c.pn a.pc, .int .i64 n, .int .u8 f], .slice la len lc] w (One (.bool true) w) := by
  have HB0 : Hid (Bp (w.alloc (.cells #[.int .i64 c.F, .int .i64 c.C, .int .i64 c.W, .int .i64 c.S, .int .i64 c.V, .int .i64 c.T, .int .u64 c.k.l1, .int .u64 c.k.llc, .int .u64 c.k.mi, .int .u64 c.k.fa, .int .u64 c.k.st, .int .u64 c.k.di, .int .u64 c.sl, .int .u64 c.pd, .int .u64 c.ft, .slice a.ta c.tn a.tc, .slice a.pa c.pn a.pc, .int .i64 n, .int .u8 f] 30)) w.heap.size a c n f) := bp_new hc n f
  have HW0 : Hid (Below w.heap.size w (w.alloc (.cells #[.int .i64 c.F, .int .i64 c.C, .int .i64 c.W, .int .i64 c.S, .int .i64 c.V, .int .i64 c.T, .int .u64 c.k.l1, .int .u64 c.k.llc, .int .u64 c.k.mi, .int .u64 c.k.fa, .int .u64 c.k.st, .int .u64 c.k.di, .int .u64 c.sl, .int .u64 c.pd, .int .u64 c.ft, .slice a.ta c.tn a.tc, .slice a.pa c.pn a.pc, .int .i64 n, .int .u8 f] 30))) := below_bx _ _
  have C0 : Hid (∀ W, Calls Tryz.prog 8 #[] W (One (.bool true) W)) := works_any
  have CN : Hid (∀ W, Cin W a c → Calls Tryz.prog 7 #[.agg #[.int .i64 c.F, .int .i64 c.C, .int .i64 c.W, .int .i64 c.S, .int .i64 c.V, .int .i64 c.T, .int .u64 c.k.l1, .int .u64 c.k.llc, .int .u64 c.k.mi, .int .u64 c.k.fa, .int .u64 c.k.st, .int .u64 c.k.di, .int .u64 c.sl, .int .u64 c.pd, .int .u64 c.ft, .slice a.ta c.tn a.tc, .slice a.pa c.pn a.pc], .int .i64 n] W fun e w' => e = .returned (.tuple #[.pointer none, .int .i64 (fe c n)]) ∧ Below W.heap.size W w') := fun W hW => New_no hW n he
  generalize hfe : fe c n = e0 at *
  clear hc hfe
  go_enter Tryz.func4, Tryz.ntmps4
  go_upto_region 1 with fail
  obtain ⟨WB, hW, HB, HWB⟩ : ∃ WB, (w.alloc (.cells #[.int .i64 c.F, .int .i64 c.C, .int .i64 c.W, .int .i64 c.S, .int .i64 c.V, .int .i64 c.T, .int .u64 c.k.l1, .int .u64 c.k.llc, .int .u64 c.k.mi, .int .u64 c.k.fa, .int .u64 c.k.st, .int .u64 c.k.di, .int .u64 c.sl, .int .u64 c.pd, .int .u64 c.ft, .slice a.ta c.tn a.tc, .slice a.pa c.pn a.pc, .int .i64 n, .int .u8 f] 30)) = WB ∧ Hid (Bp WB w.heap.size a c n f) ∧ Hid (Below w.heap.size w WB) := ⟨_, rfl, HB0, HW0⟩
  rw [hW]
  clear hW HB0 HW0
  go_wp2_with fail
  refine (C0.out _).mono ?_
  rintro e w1 ⟨rfl, k1⟩
  have H1 : Hid (Below WB.heap.size WB w1) := k1
  have B1 : Hid (Bp w1 w.heap.size a c n f) := HB.out.below k1
  have hld := B1.out.sv.ld
  have hcn := B1.out.cn
  clear k1 C0
  go_wp2_with (refine wpList_load_at rfl 28 (.tmp 21) rfl _ _ rfl hld ?_)
  refine (CN.out _ B1.out.ci).mono ?_
  rintro e w2 ⟨rfl, k2⟩
  have H2 : Hid (Below w.heap.size w w2) := HWB.out.trans ((H1.out.trans (k2.mono H1.out.size)).mono HWB.out.size)
  clear hld hcn k2 H1 CN B1
  go_wp2
  go_ret
  exact ⟨rfl, H2.out⟩
theorem SlabFrames_walk {w : World} {a : Ad} {c : Cf} (hc : Cin w a c) (n : Int) (f : Nat) (hf : f < 256) {la : Option Addr} {len lc : Nat} {K W A : Nat → Int} (hl : len ≤ 9223372036854775807) (hd : Dol w la len K W A) :
    Calls Tryz.prog 4 #[.agg #[.int .i64 c.F, .int .i64 c.C, .int .i64 c.W, .int .i64 c.S, .int .i64 c.V, .int .i64 c.T, .int .u64 c.k.l1, .int .u64 c.k.llc, .int .u64 c.k.mi, .int .u64 c.k.fa, .int .u64 c.k.st, .int .u64 c.k.di, .int .u64 c.sl, .int .u64 c.pd, .int .u64 c.ft, .slice a.ta c.tn a.tc, .slice a.pa c.pn a.pc, .int .i64 n, .int .u8 f], .slice la len lc] w (One (.bool true) w) := by
  by_cases he : fe c n = 0
  · obtain ⟨hm, m, rfl, hmn⟩ := fe_zero he
    exact frames_may hc m hm hmn f hf hl hd
  · exact frames_no hc n f he
end Go.Proofs.YtdempgjhjcjklaaGreat.P
