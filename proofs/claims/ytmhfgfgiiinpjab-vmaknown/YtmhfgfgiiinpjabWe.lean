/- split of package vma: what a list has ahead of a page, and what from it on; no condition but those named. -/
import Derived.Test.YtmhfgfgiiinpjabWd
namespace Go.Proofs.Ytmhfgfgiiinpjab.V
open Go.ChangeShapes Go.WideShapes Go.ChangeAt Go.RowKit
set_option linter.unusedVariables false
set_option maxRecDepth 8192

theorem Rn.addr {w : World} {ao : Option Addr} {l : List Rg} (h : Rn w ao l) (hn : ao = none) : l = [] := by
  rcases h with e | ⟨b, off, e, _⟩
  · exact e
  · rw [hn] at e; exact absurd e nofun
/-- What l[:k:k] is. -/
theorem slice_lo (ao : Option Addr) (n cap k : Nat) (hk : k ≤ n) (hn : n ≤ cap) : ∃ a1, (∀ W : World, (Instr.sliceAt 23 (.slice ao n cap) none (some (.int .i64 (k : Nat))) (some (.int .i64 (k : Nat)))).run Try.prog W = .ok (.slice a1 k k) W) ∧ ∀ (w : World) (l : List Rg), l.length = n → Rn w ao l → Rn w a1 (l.take k) := by
  refine ⟨if k = 0 then ao else ao.map (fun a => a.add 0), fun W => ?_, fun w l hl h => ?_⟩
  · have h1 : k ≤ cap := by omega
    simp [Instr.sliceAt, go_sem, run_underlying Try.underlying23, h1]
  · by_cases h0 : k = 0
    · subst h0; exact Or.inl (by simp)
    · rw [if_neg h0]
      rcases h with e | ⟨b, off, e, hb, hc⟩
      · subst e; exact Or.inl (by simp)
      · subst e
        show Rn w (some ((⟨b, off, none⟩ : Addr).add 0)) _
        rw [Addr.add_lit, Nat.add_zero]
        exact Rn.take (Or.inr ⟨b, off, rfl, hb, hc⟩) k
/-- What l[k:n:n] is. -/
theorem slice_hi (ao : Option Addr) (n cap k : Nat) (hk : k ≤ n) (hn : n ≤ cap) : ∃ a2, (∀ W : World, (Instr.sliceAt 23 (.slice ao n cap) (some (.int .i64 (k : Nat))) (some (.int .i64 (n : Nat))) (some (.int .i64 (n : Nat)))).run Try.prog W = .ok (.slice a2 (n - k) (n - k)) W) ∧ ∀ (w : World) (l : List Rg), l.length = n → Rn w ao l → Rn w a2 (l.drop k) := by
  refine ⟨if n = k then ao else ao.map (fun a => a.add (k * 3)), fun W => ?_, fun w l hl h => ?_⟩
  · simp [Instr.sliceAt, go_sem, run_underlying Try.underlying23, hn, hk]
  · by_cases h0 : n = k
    · exact Or.inl (List.drop_eq_nil_of_le (by omega))
    · rw [if_neg h0]
      rcases h with e | ⟨b, off, e, hb, hc⟩
      · subst e; exact Or.inl (by simp)
      · subst e
        show Rn w (some ((⟨b, off, none⟩ : Addr).add (k * 3))) _
        rw [Addr.add_lit]
        exact Rn.drop (Or.inr ⟨b, off, rfl, hb, hc⟩) k
/-- What l[1:] is. -/
theorem slice_tail (ao : Option Addr) (n cap : Nat) (h1 : 1 ≤ n) (hn : n ≤ cap) : ∃ a2, (∀ W : World, (Instr.sliceAt 23 (.slice ao n cap) (some (.int .i64 1)) none none).run Try.prog W = .ok (.slice a2 (n - 1) (cap - 1)) W) ∧ ∀ (w : World) (l : List Rg), l.length = n → Rn w ao l → Rn w a2 (l.drop 1) := by
  refine ⟨if cap = 1 then ao else ao.map (fun a => a.add (1 * 3)), fun W => ?_, fun w l hl h => ?_⟩
  · have h2 : (1 : Int) ≤ (n : Int) := by omega
    simp [Instr.sliceAt, go_sem, run_underlying Try.underlying23, h2]
  · by_cases h0 : cap = 1
    · exact Or.inl (List.drop_eq_nil_of_le (by omega))
    · rw [if_neg h0]
      rcases h with e | ⟨b, off, e, hb, hc⟩
      · subst e; exact Or.inl (by simp)
      · subst e
        show Rn w (some ((⟨b, off, none⟩ : Addr).add (1 * 3))) _
        rw [Addr.add_lit]
        exact Rn.drop (Or.inr ⟨b, off, rfl, hb, hc⟩) 1
theorem bal {w W : World} (h : Below w.heap.size w W) (o : Obj) : Below w.heap.size w (W.alloc o) := h.alloc h.size o
/-- A list put behind a list that has no room: read afterwards. -/
theorem app_any {w : World} {ao : Option Addr} {l : List Rg} (h : Rn w ao l) {ax : Option Addr} {cx n m : Nat} {k : List Rg} (hk : Rn w ax k) (hn : l.length = n) (hm : k.length = m) (hle : (n + m) * 24 ≤ 140737488355328) (ty : TypeId) :
    ∃ a' c' w', (Builtin.append_ #[23, 23] ty #[.slice ao n n, .slice ax m cx]).run Try.prog w = .ok (.slice a' (n + m) c') w' ∧ Rn w' a' (l ++ k) ∧ n + m ≤ c' ∧ Below w.heap.size w w' := by
  subst hn hm
  by_cases hk0 : k = []
  · subst hk0
    exact ⟨ao, l.length, w, app_nothing w ty ao ax _ _ cx (Nat.le_refl _), by rw [List.append_nil]; exact h, Nat.le_refl _, Below.refl _ _⟩
  · obtain ⟨v', w', hr, ho, hg⟩ := app_grow h (fun e => h.addr e) hk (List.length_pos_iff.2 hk0) hle ty (cx := cx)
    have hB : Below w.heap.size w w' := (Below.refl _ _).grown hg (Nat.le_refl _) (fun k q => by cases q)
    obtain ⟨a', c', rfl, hrn, _, _⟩ := ho.rn
    rcases ho.form with ⟨_, e⟩ | ⟨g, cap, e, _, _, hc, _⟩
    · exact absurd (List.append_eq_nil_iff.1 e).2 hk0
    · cases e
      refine ⟨_, c', w', ?_, hrn, ?_, hB⟩
      · rw [hr, List.length_append]
      · rw [List.length_append] at hc; exact hc
theorem step_app_any {w : World} {ops : Array Oper} {o : Oper} {a : Act} {K : Act → World → Prop} {Q : Exit → Act → World → Prop} {E : Prop} (hgd : o.guard = none) (s x : Operand)
    (ho : o.op = .call { callee := .builtin .append, args := #[s, x], argTypes := #[23, 23] })
    {ao : Option Addr} {l : List Rg} {ax : Option Addr} {cx n m : Nat} {k : List Rg} (hs : a.eval s = .slice ao n n) (hx : a.eval x = .slice ax m cx) (h : Rn w ao l) (hk : Rn w ax k) (hn : l.length = n) (hm : k.length = m) (hle : (n + m) * 24 ≤ 140737488355328)
    (hK : ∀ a' c' w', Rn w' a' (l ++ k) → n + m ≤ c' → Below w.heap.size w w' → K (a.put o.dst (.slice a' (n + m) c')) w') :
    if Region.wanted o (yielded ops a.tmps) = true then Oper.wp Try.prog o a w K Q else E := by
  have hw : Region.wanted o (yielded ops a.tmps) = true := by simp [Region.wanted, hgd]
  rw [if_pos hw]
  obtain ⟨a', c', w', hr, h1, h2, h3⟩ := app_any h hk hn hm hle o.type (cx := cx)
  unfold Oper.wp execOp
  simp only [ho, resolve, invoke, builtin, Sem.run_bind, Sem.run_pure, Result.andThen_ok, List.map_toArray, List.map_cons, List.map_nil, hs, hx, hr]
  exact hK a' c' w' h1 h2 h3
theorem lit1 (w : World) (p n m : Int) (ty : TypeId) {H : Nat} (hH : w.heap.size = H) : Rn (w.alloc (.cells #[.int .i64 p, .int .i64 n, .int .u8 m] ty)) (some ⟨H, 0, none⟩) [⟨p, n, m⟩] := by
  subst hH
  refine Or.inr ⟨w.heap.size, 0, rfl, by simp, fun i hi => ?_⟩
  obtain rfl : i = 0 := by simp at hi; exact hi
  exact ⟨World.cell?_alloc_new w _ ty 0, World.cell?_alloc_new w _ ty 1, World.cell?_alloc_new w _ ty 2⟩
/-- Two boxes made one behind the other. -/
theorem two_box (w : World) (A B : Array Value) (t : TypeId) : (∀ i, (((w.alloc (.cells A t)).alloc (.cells B t)).drew.drew).cell? ⟨w.heap.size, i, none⟩ = A[i]?) ∧ (∀ i, (((w.alloc (.cells A t)).alloc (.cells B t)).drew.drew).cell? ⟨w.heap.size + 1, i, none⟩ = B[i]?) ∧ Below w.heap.size w (((w.alloc (.cells A t)).alloc (.cells B t)).drew.drew) := by
  refine ⟨fun i => cell_at w A t (((below1 _ _).drew).drew) i, fun i => ?_, ((below2 w _ _).drew).drew⟩
  have := cell_at (w.alloc (.cells A t)) B t (((Below.refl _ _).drew).drew) i
  rw [World.size_alloc] at this
  exact this
/-- Both pieces of a list that was parted at a page. -/
def Spl (w : World) (l : List Rg) (x : Int) (e : Ending) (w' : World) : Prop := ∃ a1 c1 a2 c2, e = .returned (.tuple #[.slice a1 (btw l 0 x).length c1, .slice a2 (btw l x 1048576).length c2]) ∧ Rn w' a1 (btw l 0 x) ∧ Rn w' a2 (btw l x 1048576) ∧ (btw l 0 x).length ≤ c1 ∧ (btw l x 1048576).length ≤ c2 ∧ Below w.heap.size w w'
set_option maxHeartbeats 2000000 in
theorem split_ok {w : World} {ao : Option Addr} {cap : Nat} {l : List Rg} (h : Rn w ao l) (hs : Rs l) (hcap : l.length ≤ cap) {x : Int} (hx : 0 ≤ x ∧ x ≤ 1048576) : Calls Try.prog 23 #[.slice ao l.length cap, .int .i64 x] w (Spl w l x) := by
  have HRC := fun w1 (b : Below w.heap.size w w1) => reaching_ok (cap := cap) (h.below b) hs x
  have HC : Hid (∀ w1, Below w.heap.size w w1 → Calls Try.prog 25 #[.slice ao l.length cap, .int .i64 x] w1 fun e w' => ∃ k : Nat, e = .returned (.int .i64 (k : Nat)) ∧ Rch l x k ∧ Below w1.heap.size w1 w') := HRC
  have HR : Hid (Rn w ao l) := h
  have HS : Hid (Rs l) := hs
  have hl := len_tot hs
  have hl2 := (tot_max hs).2
  clear HRC h hs
  go_enter Try.func23, Try.ntmps23
  go_wp2_with fail
  refine (HC.out _ (Below.refl _ _)).mono ?_
  rintro e w1 ⟨k, rfl, hk, hb1⟩
  have HK : Hid (Rch l x k) := hk
  have HB1 : Hid (Below w.heap.size w w1) := hb1
  have hkl := hk.le
  obtain ⟨a1, s1, r1⟩ := slice_lo ao l.length cap k hkl hcap
  obtain ⟨a2, s2, r2⟩ := slice_hi ao l.length cap k hkl hcap
  have HR1 : Hid (∀ W, Below w.heap.size w W → Rn W a1 (l.take k)) := fun W hW => r1 W l rfl (HR.out.below hW)
  have HR2 : Hid (∀ W, Below w.heap.size w W → Rn W a2 (l.drop k)) := fun W hW => r2 W l rfl (HR.out.below hW)
  have hne : Nonempty (Idx (Below w.heap.size w)) := ⟨⟨w, Below.refl _ _⟩⟩
  clear hk hb1 HC r1 r2
  go_wp2_with fail
  refine wp_region_cls (Below w.heap.size w) (by kernel_rfl) (by kernel_rfl) (HB1.out.drew) ?_
  repeat (go_big_quiet_step (fail))
  refine wpQuiet_nil ?_
  rintro w2 ⟨⟨_, hS2⟩, rfl⟩
  have HB2 : Hid (Below w.heap.size w _) := hS2
  rename_i w2
  clear hne s1 s2
  have ix1 : (0 : Int) ≤ (k : Int) := Int.natCast_nonneg k
  by_cases hlt : k < l.length
  case neg =>
    obtain rfl : k = l.length := by omega
    have HE : Hid (btw l 0 x = l ∧ btw l x 1048576 = []) := Rch.len HS.out hx HK.out
    go_wp2
    go_ret2
    refine ⟨a1, l.length, a2, 0, ?_, ?_, ?_, ?_, ?_, HB2.out⟩
    · rw [HE.out.1, HE.out.2]; simp
    · rw [HE.out.1]; have := HR1.out _ HB2.out; rwa [List.take_length] at this
    · rw [HE.out.2]; exact Rn.nil _ _
    · rw [HE.out.1]; exact Nat.le_refl _
    · rw [HE.out.2]; exact Nat.le_refl _
  case pos =>
    obtain ⟨b, off, rfl, hbl, hq⟩ := HR.out.idx hlt
    have HE : Hid ((x ≤ l[k].p → btw l 0 x = l.take k ∧ btw l x 1048576 = l.drop k) ∧ (l[k].p < x → btw l 0 x = l.take k ++ [⟨l[k].p, x - l[k].p, l[k].m⟩] ∧ btw l x 1048576 = ⟨x, l[k].e - x, l[k].m⟩ :: l.drop (k + 1))) := Rch.parts HS.out hx HK.out hlt
    have HO : Hid (l[k].Ok) := HS.out.ok _ (List.getElem_mem hlt)
    have hee : l[k].e = l[k].p + l[k].n := rfl
    have hpg := HO.out.pg
    generalize l[k] = r at *
    obtain ⟨p, n, m⟩ := r
    simp only at hq hee
    unfold pgs at hpg
    simp only at hpg
    obtain ⟨hp1, hp2, hn1, hn2⟩ := hpg
    obtain ⟨c0, c1, c2⟩ := hq _ HB2.out
    have ix2 : (k : Int) < (l.length : Int) := Int.ofNat_lt.2 hlt
    have ix3 : ((k : Int) == (l.length : Int)) = false := by simp; omega
    by_cases hp : x ≤ p
    case pos =>
      have HEP : Hid (btw l 0 x = l.take k ∧ btw l x 1048576 = l.drop k) := HE.out.1 hp
      have hd : decide (x ≤ p) = true := decide_eq_true hp
      clear HE
      go_wp2
      go_ret2
      refine ⟨a1, k, a2, l.length - k, ?_, ?_, ?_, ?_, ?_, HB2.out⟩
      · rw [HEP.out.1, HEP.out.2, List.length_take, List.length_drop, Nat.min_eq_left (by omega)]; simp
      · rw [HEP.out.1]; exact HR1.out _ HB2.out
      · rw [HEP.out.2]; exact HR2.out _ HB2.out
      · rw [HEP.out.1, List.length_take]; omega
      · rw [HEP.out.2, List.length_drop]; exact Nat.le_refl _
    case neg =>
      have hd : decide (x ≤ p) = false := decide_eq_false hp
      have HEP : Hid (btw l 0 x = l.take k ++ [⟨p, x - p, m⟩] ∧ btw l x 1048576 = ⟨x, (⟨p, n, m⟩ : Rg).e - x, m⟩ :: l.drop (k + 1)) := HE.out.2 (Int.not_le.1 hp)
      have HF : Hid (btw l 0 x = l.take k ++ [⟨p, x - p, m⟩] ∧ btw l x 1048576 = [⟨x, n - (x - p), m⟩] ++ l.drop (k + 1) ∧ (btw l 0 x).length = k + 1 ∧ (btw l x 1048576).length = 1 + (l.length - k - 1)) := by
        have e2 : btw l x 1048576 = [⟨x, n - (x - p), m⟩] ++ l.drop (k + 1) := by
          rw [HEP.out.2, show (⟨p, n, m⟩ : Rg).e - x = n - (x - p) by unfold Rg.e; simp only; omega]; rfl
        refine ⟨HEP.out.1, e2, ?_, ?_⟩
        · rw [HEP.out.1, List.length_append, List.length_take]; simp only [List.length_cons, List.length_nil]; omega
        · rw [e2, List.length_append, List.length_drop]; simp only [List.length_cons, List.length_nil]; omega
      clear HEP
      have HQ : Hid (∀ W, Below w.heap.size w W → W.cell? ⟨b, off + k * 3, none⟩ = some (.int .i64 p) ∧ W.cell? ⟨b, off + k * 3 + 1, none⟩ = some (.int .i64 n) ∧ W.cell? ⟨b, off + k * 3 + 2, none⟩ = some (.int .u8 m)) := hq
      have hcs := hq _ HB2.out
      have hsz := HB2.out.size
      obtain ⟨a3, s3, r3⟩ := slice_tail a2 (l.length - k) (l.length - k) (by omega) (Nat.le_refl _)
      have HR3 : Hid (∀ W, Below w.heap.size w W → Rn W a3 (l.drop (k + 1))) := fun W hW => by
        have := r3 W (l.drop k) (by rw [List.length_drop]) (HR2.out W hW)
        rwa [List.drop_drop] at this
      clear r3
      clear HE hq c0 c1 c2
      go_wp2_with fail
      go_region_held3 (fun W => W.cell? ⟨b, off + k * 3, none⟩ = some (.int .i64 p) ∧ W.cell? ⟨b, off + k * 3 + 1, none⟩ = some (.int .i64 n) ∧ W.cell? ⟨b, off + k * 3 + 2, none⟩ = some (.int .u8 m))
        (first | exact hcs | (refine HQ.out _ ?_; repeat (first | exact HB2.out | refine Below.drew ?_ | refine bal ?_ _ | refine Below.setCell ?_ (by first | (simp; done) | (simp; omega)) _)))
        (fail)
      all_goals go_wp2_with fail
      all_goals go_region
      all_goals go_wp2_with fail
      · have q := two_box w2 #[.int .i64 p, .int .i64 (x - p), .int .u8 m] #[.int .i64 x, .int .i64 (n - (x - p)), .int .u8 m] 26
        have hWb : Hid (Below w.heap.size w (((w2.alloc (.cells #[.int .i64 p, .int .i64 (x - p), .int .u8 m] 26)).alloc (.cells #[.int .i64 x, .int .i64 (n - (x - p)), .int .u8 m] 26)).drew.drew)) := bs HB2.out q.2.2
        have q7 : Hid (∀ i, (((w2.alloc (.cells #[.int .i64 p, .int .i64 (x - p), .int .u8 m] 26)).alloc (.cells #[.int .i64 x, .int .i64 (n - (x - p)), .int .u8 m] 26)).drew.drew).cell? ⟨w2.heap.size, i, none⟩ = (#[.int .i64 p, .int .i64 (x - p), .int .u8 m] : Array Value)[i]?) := q.1
        have q8 : Hid (∀ i, (((w2.alloc (.cells #[.int .i64 p, .int .i64 (x - p), .int .u8 m] 26)).alloc (.cells #[.int .i64 x, .int .i64 (n - (x - p)), .int .u8 m] 26)).drew.drew).cell? ⟨w2.heap.size + 1, i, none⟩ = (#[.int .i64 x, .int .i64 (n - (x - p)), .int .u8 m] : Array Value)[i]?) := q.2.1
        clear q
        generalize (((w2.alloc (.cells #[.int .i64 p, .int .i64 (x - p), .int .u8 m] 26)).alloc (.cells #[.int .i64 x, .int .i64 (n - (x - p)), .int .u8 m] 26)).drew.drew) = W3 at *
        have HSW : Hid (∀ W, Below W3.heap.size W3 W → (W.cell? ⟨w2.heap.size, 0, none⟩ = some (.int .i64 p) ∧ W.cell? ⟨w2.heap.size, 1, none⟩ = some (.int .i64 (x - p)) ∧ W.cell? ⟨w2.heap.size, 2, none⟩ = some (.int .u8 m)) ∧ W.cell? ⟨w2.heap.size + 1, 0, none⟩ = some (.int .i64 x) ∧ W.cell? ⟨w2.heap.size + 1, 1, none⟩ = some (.int .i64 (n - (x - p))) ∧ W.cell? ⟨w2.heap.size + 1, 2, none⟩ = some (.int .u8 m)) := fun W hW => by
          have e7 (i) (v) (h : (#[.int .i64 p, .int .i64 (x - p), .int .u8 m] : Array Value)[i]? = some v) := (hW.cell (p := ⟨w2.heap.size, i, none⟩) (World.block_lt_of_cell? W3 _ ((q7.out i).trans h))).trans ((q7.out i).trans h)
          have e8 (i) (v) (h : (#[.int .i64 x, .int .i64 (n - (x - p)), .int .u8 m] : Array Value)[i]? = some v) := (hW.cell (p := ⟨w2.heap.size + 1, i, none⟩) (World.block_lt_of_cell? W3 _ ((q8.out i).trans h))).trans ((q8.out i).trans h)
          exact ⟨⟨e7 0 _ rfl, e7 1 _ rfl, e7 2 _ rfl⟩, e8 0 _ rfl, e8 1 _ rfl, e8 2 _ rfl⟩
        have hS3 := HSW.out W3 (Below.refl _ _)
        clear q7 q8 hcs HQ
        have HR1' : Hid (∀ W, Below W3.heap.size W3 W → Rn W a1 (l.take k)) := fun W hW => HR1.out W (bs hWb.out hW)
        have HR3' : Hid (∀ W, Below W3.heap.size W3 W → Rn W a3 (l.drop (k + 1))) := fun W hW => HR3.out W (bs hWb.out hW)
        have HLn : Hid ((l.take k).length = k ∧ (l.drop (k + 1)).length = l.length - k - 1) := ⟨by rw [List.length_take]; omega, by rw [List.length_drop]; omega⟩
        go_region_held_law (fun W => (W.cell? ⟨w2.heap.size, 0, none⟩ = some (.int .i64 p) ∧ W.cell? ⟨w2.heap.size, 1, none⟩ = some (.int .i64 (x - p)) ∧ W.cell? ⟨w2.heap.size, 2, none⟩ = some (.int .u8 m)) ∧ W.cell? ⟨w2.heap.size + 1, 0, none⟩ = some (.int .i64 x) ∧ W.cell? ⟨w2.heap.size + 1, 1, none⟩ = some (.int .i64 (n - (x - p))) ∧ W.cell? ⟨w2.heap.size + 1, 2, none⟩ = some (.int .u8 m))
          (first | exact hS3 | (refine HSW.out _ ?_; (repeat (first | with_reducible exact Below.refl _ _ | with_reducible exact H5.out | with_reducible exact H6.out | with_reducible refine Below.drew ?_ | with_reducible refine bal ?_ _))))
          (first
            | (refine step_app_any rfl (.tmp 59) (.tmp 61) rfl (ao := a1) (l := l.take k) (cx := 1) (n := k) (m := 1) (k := [⟨p, x - p, m⟩]) rfl rfl (HR1'.out _ (by (repeat (first | with_reducible exact Below.refl _ _ | with_reducible exact H5.out | with_reducible exact H6.out | with_reducible refine Below.drew ?_ | with_reducible refine bal ?_ _)))) (by (first | with_reducible exact (lit1 _ p (x - p) m _ (by simp)) | with_reducible exact (lit1 _ p (x - p) m _ (by simp)).drew | with_reducible exact ((lit1 _ p (x - p) m _ (by simp))).alloc _ | exact (((lit1 _ p (x - p) m _ (by simp))).alloc _).drew | with_reducible exact ((lit1 _ p (x - p) m _ (by simp))).drew.alloc _ | with_reducible exact HLa.out)) HLn.out.1 rfl (by omega) ?_; intro a5 c5 w5 hr5 hc5 hb5; have H5 : Hid (Below W3.heap.size W3 w5) := bs (by (repeat (first | with_reducible exact Below.refl _ _ | with_reducible exact H5.out | with_reducible exact H6.out | with_reducible refine Below.drew ?_ | with_reducible refine bal ?_ _))) hb5; (try (have HLa : Hid (Rn w5 (some ⟨W3.heap.size, 0, none⟩) [⟨x, n - (x - p), m⟩]) := Rn.below (w := ((W3.alloc (.cells #[.int .i64 x, .int .i64 (n - (x - p)), .int .u8 m] 26)).alloc (.cells #[.int .i64 p, .int .i64 (x - p), .int .u8 m] 26)).drew) (Rn.drew (Rn.alloc (lit1 W3 x (n - (x - p)) m 26 rfl) _)) hb5)); (try (have HLa : Hid (Rn w5 (some ⟨W3.heap.size + 1, 0, none⟩) [⟨x, n - (x - p), m⟩]) := Rn.below (w := ((W3.alloc (.cells #[.int .i64 p, .int .i64 (x - p), .int .u8 m] 26)).alloc (.cells #[.int .i64 x, .int .i64 (n - (x - p)), .int .u8 m] 26)).drew) (Rn.drew (lit1 (W3.alloc (.cells #[.int .i64 p, .int .i64 (x - p), .int .u8 m] 26)) x (n - (x - p)) m 26 (by simp))) hb5)); have HR5 : Hid (Rn w5 a5 (l.take k ++ [⟨p, x - p, m⟩])) := hr5; clear hr5 hb5)
            | (refine step_app_any rfl (.tmp 64) (.tmp 66) rfl (l := [⟨x, n - (x - p), m⟩]) (ax := a3) (cx := l.length - k - 1) (n := 1) (m := l.length - k - 1) (k := l.drop (k + 1)) rfl rfl (by (first | with_reducible exact (lit1 _ x (n - (x - p)) m _ (by simp)) | with_reducible exact (lit1 _ x (n - (x - p)) m _ (by simp)).drew | with_reducible exact ((lit1 _ x (n - (x - p)) m _ (by simp))).alloc _ | exact (((lit1 _ x (n - (x - p)) m _ (by simp))).alloc _).drew | with_reducible exact ((lit1 _ x (n - (x - p)) m _ (by simp))).drew.alloc _ | with_reducible exact HLa.out)) (HR3'.out _ (by (repeat (first | with_reducible exact Below.refl _ _ | with_reducible exact H5.out | with_reducible exact H6.out | with_reducible refine Below.drew ?_ | with_reducible refine bal ?_ _)))) rfl HLn.out.2 (by omega) ?_; intro a6 c6 w6 hr6 hc6 hb6; have H6 : Hid (Below W3.heap.size W3 w6) := bs (by (repeat (first | with_reducible exact Below.refl _ _ | with_reducible exact H5.out | with_reducible exact H6.out | with_reducible refine Below.drew ?_ | with_reducible refine bal ?_ _))) hb6; have HR6 : Hid (Rn w6 a6 ([⟨x, n - (x - p), m⟩] ++ l.drop (k + 1))) := hr6; have HR7 : Hid (Rn w6 a5 (l.take k ++ [⟨p, x - p, m⟩])) := Rn.below (by first | with_reducible exact HR5.out | with_reducible exact Rn.alloc HR5.out _ | with_reducible exact Rn.drew HR5.out | with_reducible exact Rn.drew (Rn.alloc HR5.out _)) hb6; clear hr6 hb6))
        all_goals (simp only [List.getElem_toArray, List.getElem_cons_succ, List.getElem_cons_zero, List.set_cons_zero, List.set_cons_succ])
        all_goals go_wp2
        all_goals go_ret2
        all_goals exact ⟨a5, c5, a6, c6, by rw [HF.out.2.2.1, HF.out.2.2.2]; rfl, by rw [HF.out.1]; exact HR7.out, by rw [HF.out.2.1]; exact HR6.out, by rw [HF.out.2.2.1]; exact hc5, by rw [HF.out.2.2.2]; exact hc6, bs hWb.out H6.out⟩
      · have q := two_box w2 #[.int .i64 x, .int .i64 (n - (x - p)), .int .u8 m] #[.int .i64 p, .int .i64 (x - p), .int .u8 m] 26
        have hWb : Hid (Below w.heap.size w (((w2.alloc (.cells #[.int .i64 x, .int .i64 (n - (x - p)), .int .u8 m] 26)).alloc (.cells #[.int .i64 p, .int .i64 (x - p), .int .u8 m] 26)).drew.drew)) := bs HB2.out q.2.2
        have q7 : Hid (∀ i, (((w2.alloc (.cells #[.int .i64 x, .int .i64 (n - (x - p)), .int .u8 m] 26)).alloc (.cells #[.int .i64 p, .int .i64 (x - p), .int .u8 m] 26)).drew.drew).cell? ⟨w2.heap.size + 1, i, none⟩ = (#[.int .i64 p, .int .i64 (x - p), .int .u8 m] : Array Value)[i]?) := q.2.1
        have q8 : Hid (∀ i, (((w2.alloc (.cells #[.int .i64 x, .int .i64 (n - (x - p)), .int .u8 m] 26)).alloc (.cells #[.int .i64 p, .int .i64 (x - p), .int .u8 m] 26)).drew.drew).cell? ⟨w2.heap.size, i, none⟩ = (#[.int .i64 x, .int .i64 (n - (x - p)), .int .u8 m] : Array Value)[i]?) := q.1
        clear q
        generalize (((w2.alloc (.cells #[.int .i64 x, .int .i64 (n - (x - p)), .int .u8 m] 26)).alloc (.cells #[.int .i64 p, .int .i64 (x - p), .int .u8 m] 26)).drew.drew) = W3 at *
        have HSW : Hid (∀ W, Below W3.heap.size W3 W → (W.cell? ⟨w2.heap.size + 1, 0, none⟩ = some (.int .i64 p) ∧ W.cell? ⟨w2.heap.size + 1, 1, none⟩ = some (.int .i64 (x - p)) ∧ W.cell? ⟨w2.heap.size + 1, 2, none⟩ = some (.int .u8 m)) ∧ W.cell? ⟨w2.heap.size, 0, none⟩ = some (.int .i64 x) ∧ W.cell? ⟨w2.heap.size, 1, none⟩ = some (.int .i64 (n - (x - p))) ∧ W.cell? ⟨w2.heap.size, 2, none⟩ = some (.int .u8 m)) := fun W hW => by
          have e7 (i) (v) (h : (#[.int .i64 p, .int .i64 (x - p), .int .u8 m] : Array Value)[i]? = some v) := (hW.cell (p := ⟨w2.heap.size + 1, i, none⟩) (World.block_lt_of_cell? W3 _ ((q7.out i).trans h))).trans ((q7.out i).trans h)
          have e8 (i) (v) (h : (#[.int .i64 x, .int .i64 (n - (x - p)), .int .u8 m] : Array Value)[i]? = some v) := (hW.cell (p := ⟨w2.heap.size, i, none⟩) (World.block_lt_of_cell? W3 _ ((q8.out i).trans h))).trans ((q8.out i).trans h)
          exact ⟨⟨e7 0 _ rfl, e7 1 _ rfl, e7 2 _ rfl⟩, e8 0 _ rfl, e8 1 _ rfl, e8 2 _ rfl⟩
        have hS3 := HSW.out W3 (Below.refl _ _)
        clear q7 q8 hcs HQ
        have HR1' : Hid (∀ W, Below W3.heap.size W3 W → Rn W a1 (l.take k)) := fun W hW => HR1.out W (bs hWb.out hW)
        have HR3' : Hid (∀ W, Below W3.heap.size W3 W → Rn W a3 (l.drop (k + 1))) := fun W hW => HR3.out W (bs hWb.out hW)
        have HLn : Hid ((l.take k).length = k ∧ (l.drop (k + 1)).length = l.length - k - 1) := ⟨by rw [List.length_take]; omega, by rw [List.length_drop]; omega⟩
        go_region_held_law (fun W => (W.cell? ⟨w2.heap.size + 1, 0, none⟩ = some (.int .i64 p) ∧ W.cell? ⟨w2.heap.size + 1, 1, none⟩ = some (.int .i64 (x - p)) ∧ W.cell? ⟨w2.heap.size + 1, 2, none⟩ = some (.int .u8 m)) ∧ W.cell? ⟨w2.heap.size, 0, none⟩ = some (.int .i64 x) ∧ W.cell? ⟨w2.heap.size, 1, none⟩ = some (.int .i64 (n - (x - p))) ∧ W.cell? ⟨w2.heap.size, 2, none⟩ = some (.int .u8 m))
          (first | exact hS3 | (refine HSW.out _ ?_; (repeat (first | with_reducible exact Below.refl _ _ | with_reducible exact H5.out | with_reducible exact H6.out | with_reducible refine Below.drew ?_ | with_reducible refine bal ?_ _))))
          (first
            | (refine step_app_any rfl (.tmp 59) (.tmp 61) rfl (ao := a1) (l := l.take k) (cx := 1) (n := k) (m := 1) (k := [⟨p, x - p, m⟩]) rfl rfl (HR1'.out _ (by (repeat (first | with_reducible exact Below.refl _ _ | with_reducible exact H5.out | with_reducible exact H6.out | with_reducible refine Below.drew ?_ | with_reducible refine bal ?_ _)))) (by (first | with_reducible exact (lit1 _ p (x - p) m _ (by simp)) | with_reducible exact (lit1 _ p (x - p) m _ (by simp)).drew | with_reducible exact ((lit1 _ p (x - p) m _ (by simp))).alloc _ | exact (((lit1 _ p (x - p) m _ (by simp))).alloc _).drew | with_reducible exact ((lit1 _ p (x - p) m _ (by simp))).drew.alloc _ | with_reducible exact HLa.out)) HLn.out.1 rfl (by omega) ?_; intro a5 c5 w5 hr5 hc5 hb5; have H5 : Hid (Below W3.heap.size W3 w5) := bs (by (repeat (first | with_reducible exact Below.refl _ _ | with_reducible exact H5.out | with_reducible exact H6.out | with_reducible refine Below.drew ?_ | with_reducible refine bal ?_ _))) hb5; (try (have HLa : Hid (Rn w5 (some ⟨W3.heap.size, 0, none⟩) [⟨x, n - (x - p), m⟩]) := Rn.below (w := ((W3.alloc (.cells #[.int .i64 x, .int .i64 (n - (x - p)), .int .u8 m] 26)).alloc (.cells #[.int .i64 p, .int .i64 (x - p), .int .u8 m] 26)).drew) (Rn.drew (Rn.alloc (lit1 W3 x (n - (x - p)) m 26 rfl) _)) hb5)); (try (have HLa : Hid (Rn w5 (some ⟨W3.heap.size + 1, 0, none⟩) [⟨x, n - (x - p), m⟩]) := Rn.below (w := ((W3.alloc (.cells #[.int .i64 p, .int .i64 (x - p), .int .u8 m] 26)).alloc (.cells #[.int .i64 x, .int .i64 (n - (x - p)), .int .u8 m] 26)).drew) (Rn.drew (lit1 (W3.alloc (.cells #[.int .i64 p, .int .i64 (x - p), .int .u8 m] 26)) x (n - (x - p)) m 26 (by simp))) hb5)); have HR5 : Hid (Rn w5 a5 (l.take k ++ [⟨p, x - p, m⟩])) := hr5; clear hr5 hb5)
            | (refine step_app_any rfl (.tmp 64) (.tmp 66) rfl (l := [⟨x, n - (x - p), m⟩]) (ax := a3) (cx := l.length - k - 1) (n := 1) (m := l.length - k - 1) (k := l.drop (k + 1)) rfl rfl (by (first | with_reducible exact (lit1 _ x (n - (x - p)) m _ (by simp)) | with_reducible exact (lit1 _ x (n - (x - p)) m _ (by simp)).drew | with_reducible exact ((lit1 _ x (n - (x - p)) m _ (by simp))).alloc _ | exact (((lit1 _ x (n - (x - p)) m _ (by simp))).alloc _).drew | with_reducible exact ((lit1 _ x (n - (x - p)) m _ (by simp))).drew.alloc _ | with_reducible exact HLa.out)) (HR3'.out _ (by (repeat (first | with_reducible exact Below.refl _ _ | with_reducible exact H5.out | with_reducible exact H6.out | with_reducible refine Below.drew ?_ | with_reducible refine bal ?_ _)))) rfl HLn.out.2 (by omega) ?_; intro a6 c6 w6 hr6 hc6 hb6; have H6 : Hid (Below W3.heap.size W3 w6) := bs (by (repeat (first | with_reducible exact Below.refl _ _ | with_reducible exact H5.out | with_reducible exact H6.out | with_reducible refine Below.drew ?_ | with_reducible refine bal ?_ _))) hb6; have HR6 : Hid (Rn w6 a6 ([⟨x, n - (x - p), m⟩] ++ l.drop (k + 1))) := hr6; have HR7 : Hid (Rn w6 a5 (l.take k ++ [⟨p, x - p, m⟩])) := Rn.below (by first | with_reducible exact HR5.out | with_reducible exact Rn.alloc HR5.out _ | with_reducible exact Rn.drew HR5.out | with_reducible exact Rn.drew (Rn.alloc HR5.out _)) hb6; clear hr6 hb6))
        all_goals (simp only [List.getElem_toArray, List.getElem_cons_succ, List.getElem_cons_zero, List.set_cons_zero, List.set_cons_succ])
        all_goals go_wp2
        all_goals go_ret2
        all_goals exact ⟨a5, c5, a6, c6, by rw [HF.out.2.2.1, HF.out.2.2.2]; rfl, by rw [HF.out.1]; exact HR7.out, by rw [HF.out.2.1]; exact HR6.out, by rw [HF.out.2.2.1]; exact hc5, by rw [HF.out.2.2.2]; exact hc6, bs hWb.out H6.out⟩
end Go.Proofs.Ytmhfgfgiiinpjab.V
