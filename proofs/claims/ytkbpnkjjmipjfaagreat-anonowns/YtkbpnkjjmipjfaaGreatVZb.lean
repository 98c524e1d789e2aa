/- Maps in memory, whatever their keys and elements: what lies there, what is read, stored, struck, how many there are, and going over one; no condition but those that each theorem names. -/
import Derived.Test.YtkbpnkjjmipjfaaGreatVZa
import Derived.Test.YtkbpnkjjmipjfaaGreatVMa
import Derived.Maps.RangeWalk
namespace Go.Proofs.YtkbpnkjjmipjfaaGreat.Az
open B P Go.ChangeShapes Go.WideShapes Go.ChangeAt Go.RowKit
set_option linter.unusedVariables false

structure Vm {κ : Type} (kl : κ → Lit) (D : DataW Value) (m : κ → Option Value) : Prop where
  has : ∀ x, Maps.has D (kl x) = (m x).isSome
  at' : ∀ x v, m x = some v → ∀ z, D.atKey (kl x) z = .held v
def Mv (k : TypeId) {κ : Type} (kl : κ → Lit) (w : World) (b N : Nat) (m : κ → Option Value) : Prop := ∃ D, w.ownsMap Tryz.prog k Rv b N D ∧ Vm kl D m
section
variable {k : TypeId} {κ : Type} {kl : κ → Lit} {w : World} {b N : Nat} {m : κ → Option Value}
theorem Mv.lt (h : Mv k kl w b N m) : b < w.heap.size := by
  obtain ⟨D, ho, _⟩ := h
  exact ho.lt
theorem Mv.of_eq {w' : World} (h : Mv k kl w b N m) (e : w'.heap[b]? = w.heap[b]?) : Mv k kl w' b N m := by
  obtain ⟨D, ⟨es, clock, hb, F⟩, v⟩ := h
  exact ⟨D, ⟨es, clock, e.trans hb, F⟩, v⟩
theorem Mv.congr {m' : κ → Option Value} (h : Mv k kl w b N m) (e : ∀ x, m' x = m x) : Mv k kl w b N m' := by
  obtain ⟨D, ho, v⟩ := h
  exact ⟨D, ho, fun x => by rw [e x]; exact v.has x, fun x u hx => v.at' x u (by rw [← e x]; exact hx)⟩
theorem Mv.more {M : Nat} (h : Mv k kl w b N m) (q : N ≤ M) : Mv k kl w b M m := by
  obtain ⟨D, ho, v⟩ := h
  exact ⟨D, ho.mono q, v⟩
theorem mv_new (w : World) : Mv k kl (w.alloc (.map #[] 0)) w.heap.size 0 (fun _ => none) :=
  ⟨_, World.ownsMap_made w Tryz.prog k Rv, fun x => by simp [Maps.has], fun x v e => by cases e⟩
theorem Mv.look (h : Mv k kl w b N m) (K : Maps.Keyed Tryz.prog k) {t e : TypeId} (ht : Tryz.prog.underlying t = some (.map k e)) {z : Value} (hz : (zeroValue e).run Tryz.prog w = .ok z w) {x : κ} {kv : Value} (hk : keyOf Tryz.prog k kv = some (kl x)) :
    (Instr.lookup t (.map (some b)) kv true).run Tryz.prog w = .ok (.tuple #[(m x).getD z, .bool (m x).isSome]) w := by
  obtain ⟨D, ho, v⟩ := h
  obtain ⟨y, ps, hr, hx⟩ := ho.look_ok K ht (z := z) hz (zd := .held z) (zp := []) rfl hk
  rw [v.has x] at hr
  cases hm : m x with
  | none =>
    have hf : Maps.has D (kl x) = false := by rw [v.has x, hm]; rfl
    rw [Maps.atKey_of_not_has hf] at hx
    simp [Rv] at hx
    rw [hr, hx.1, hm]
    rfl
  | some u =>
    rw [v.at' x u hm] at hx
    simp [Rv] at hx
    rw [hr, hx.1, hm]
    rfl
theorem Mv.look1 (h : Mv k kl w b N m) (K : Maps.Keyed Tryz.prog k) {t e : TypeId} (ht : Tryz.prog.underlying t = some (.map k e)) {z : Value} (hz : (zeroValue e).run Tryz.prog w = .ok z w) {x : κ} {kv : Value} (hk : keyOf Tryz.prog k kv = some (kl x)) :
    (Instr.lookup t (.map (some b)) kv false).run Tryz.prog w = .ok ((m x).getD z) w := by
  obtain ⟨D, ho, v⟩ := h
  obtain ⟨y, ps, hr, hx⟩ := ho.lookup K ht (z := z) hz (zd := .held z) (zp := []) rfl hk
  cases hm : m x with
  | none =>
    have hf : Maps.has D (kl x) = false := by rw [v.has x, hm]; rfl
    rw [Maps.atKey_of_not_has hf] at hx
    simp [Rv] at hx
    rw [hr, hx.1]
    rfl
  | some u =>
    rw [v.at' x u hm] at hx
    simp [Rv] at hx
    rw [hr, hx.1]
    rfl
def pk [DecidableEq κ] (m : κ → Option Value) (x : κ) (v : Option Value) : κ → Option Value := fun y => if y = x then v else m y
theorem Mv.store [DecidableEq κ] (h : Mv k kl w b N m) (K : Maps.Keyed Tryz.prog k) {t e : TypeId} (ht : Tryz.prog.underlying t = some (.map k e)) (hN : N < maxLen) {x : κ} {kv : Value} (hk : keyOf Tryz.prog k kv = some (kl x)) (hi : ∀ y, kl y = kl x → y = x) (u : Value) :
    ∃ w', (Instr.mapUpdate t (.map (some b)) kv u).run Tryz.prog w = .ok () w' ∧ Mv k kl w' b (N + 1) (pk m x (some u)) ∧ w.grownBy w' (some b) := by
  obtain ⟨D, ho, v⟩ := h
  obtain ⟨w', hr, ho', g⟩ := ho.update K ht hN hk (val := u) (d := .held u) (ps := []) rfl
  refine ⟨w', hr, ⟨_, ho', fun y => ?_, fun y c hc z => ?_⟩, g⟩
  · unfold pk
    by_cases e : y = x
    · subst e
      rw [if_pos rfl, Maps.has_put_same ho.isMap (K.key hk)]
      rfl
    · rw [if_neg e, Maps.has_put_other (fun q => e (hi y q))]
      exact v.has y
  · unfold pk at hc
    by_cases e : y = x
    · subst e
      rw [if_pos rfl] at hc
      cases hc
      exact Maps.atKey_put_same ho.isMap (K.key hk) _ _
    · rw [if_neg e] at hc
      rw [Maps.atKey_put_other (fun q => e (hi y q))]
      exact v.at' y c hc z
theorem Mv.drop [DecidableEq κ] (h : Mv k kl w b N m) (K : Maps.Keyed Tryz.prog k) {t e : TypeId} (ht : Tryz.prog.underlying t = some (.map k e)) {x : κ} {kv : Value} (hk : keyOf Tryz.prog k kv = some (kl x)) (hi : ∀ y, kl y = kl x → y = x) (ty : TypeId) :
    ∃ w', (Builtin.delete_ #[t, k] ty #[.map (some b), kv]).run Tryz.prog w = .ok (.tuple #[]) w' ∧ Mv k kl w' b N (pk m x none) ∧ w.grownBy w' (some b) := by
  obtain ⟨D, ho, v⟩ := h
  obtain ⟨w', hr, ho', g⟩ := ho.drop K ht hk ty
  refine ⟨w', hr, ⟨_, ho', fun y => ?_, fun y c hc z => ?_⟩, g.grown⟩
  · unfold pk
    by_cases e : y = x
    · subst e
      rw [if_pos rfl, Maps.has_del_same]
      rfl
    · rw [if_neg e, Maps.has_del_other (fun q => e (hi y q))]
      exact v.has y
  · unfold pk at hc
    by_cases e : y = x
    · rw [if_pos e] at hc
      cases hc
    · rw [if_neg e] at hc
      rw [Maps.atKey_del_other (fun q => e (hi y q))]
      exact v.at' y c hc z
end
abbrev ik : Int → Lit := .int .i64
theorem ik_in {j : Int} (h0 : -9223372036854775808 ≤ j) (h1 : j ≤ 9223372036854775807) : keyOf Tryz.prog 3 (.int .i64 j) = some (ik j) := key_all j h0 h1
theorem ik_inj {x : Int} : ∀ y, ik y = ik x → y = x := fun y h => by injection h
theorem vm_size {w : World} {b n : Nat} {D : DataW Value} {m : Int → Option Value} (ho : w.ownsMap Tryz.prog 3 Rv b n D) (v : Vm ik D m) {l : List Int} (hn : l.Nodup) (hm : ∀ x, x ∈ l ↔ (m x).isSome = true) : Maps.size D = l.length := by
  obtain ⟨es, hD, hpw, _⟩ := ho.entries keyed
  obtain ⟨es', hD', hko⟩ := ho.keysOf
  obtain rfl : es = es' := by rw [hD] at hD'; simpa using hD'
  have h1 := keys_size ho
  have h2 : l.Perm (intKeys D) := by
    subst hD
    exact perm_intKeys hpw (fun p hp => by obtain ⟨k, hk⟩ := hko p hp; obtain ⟨x, _, hx, _⟩ := Maps.keyOf_i64 Tryz.underlying3 hk; exact ⟨x, hx⟩) hn (fun x => by rw [hm x]; have := v.has x; rw [← this])
  rw [← h1, h2.length_eq]
theorem Mv.tight {w : World} {b N : Nat} {m : Int → Option Value} (h : Mv 3 ik w b N m) {l : List Int} (hn : l.Nodup) (hm : ∀ x, x ∈ l ↔ (m x).isSome = true) : Mv 3 ik w b l.length m := by
  obtain ⟨D, ho, v⟩ := h
  have e1 := vm_size ho v hn hm
  obtain ⟨es, clock, hb, F, hs, hD⟩ := ho
  refine ⟨D, ⟨es, clock, hb, F, ?_, hD⟩, v⟩
  have e : Maps.size D = es.size := by rw [hD]; simp [Maps.size, length_sorted]
  omega
theorem Mv.len {w : World} {b N : Nat} {m : Int → Option Value} (h : Mv 3 ik w b N m) {t e : TypeId} (ht : Tryz.prog.underlying t = some (.map 3 e)) {l : List Int} (hn : l.Nodup) (hm : ∀ x, x ∈ l ↔ (m x).isSome = true) : ∀ ty, (Builtin.len_ #[t] ty #[.map (some b)]).run Tryz.prog w = .ok (.int .i64 (l.length : Nat)) w := by
  obtain ⟨D, ho, v⟩ := h
  have e1 := vm_size ho v hn hm
  intro ty
  rw [← e1]
  exact ho.len ht ty
theorem ent_is {D : DataW Value} {m : Int → Option Value} (hv : Vm ik D m) {x : Int} {kl : Lit} {c : Value} {y : DataW Value × List MemPlace} (hkey : keyOf Tryz.prog 3 (.int .i64 x) = some kl) (hR : Rv c = some y) (hat : ∀ zd, D.atKey kl zd = y.1) : kl = .int .i64 x ∧ m x = some c := by
  obtain ⟨x', e1, e2, _⟩ := Maps.keyOf_int_inv Tryz.underlying3 hkey
  cases e1
  subst e2
  refine ⟨rfl, ?_⟩
  cases hR
  cases hx : m x with
  | none =>
    have q : Maps.has D (.int .i64 x) = false := by have := hv.has x; rw [hx] at this; exact this
    have h1 := hat (.held (.bool true))
    have h2 := hat (.held (.bool false))
    rw [Maps.atKey_of_not_has q] at h1 h2
    rw [← h1] at h2
    simp at h2
  | some u =>
    have := hat (.held (.bool true))
    rw [hv.at' x u hx] at this
    simp at this
    rw [this]
structure Gm (w : World) (b r : Nat) (m : Int → Option Value) (D : DataW Value) (N : Nat) (left : Lit → Bool) (cnt : Nat) : Prop where
  rg : w.ranges Tryz.prog 3 Rv b r N D left cnt
  vm : Vm ik D m
end Go.Proofs.YtkbpnkjjmipjfaaGreat.Az
namespace Go.Proofs.YtkbpnkjjmipjfaaGreat.Az
open B P Go.ChangeShapes Go.WideShapes Go.ChangeAt Go.RowKit
set_option linter.unusedVariables false

def ro (r : Rc) (v : Value) (at_ : Nat) : List Value := [.int .i64 r.pg, v, .int .i64 r.fr, .int .i64 r.sl, .int .u64 at_]
def pts (f : Rs) (g : Nat → Nat) : Int → Option Value := fun x => (rcd f x).map fun _ => .pointer (some ⟨g x.toNat, 0, none⟩)
theorem pts_nat (f : Rs) (g : Nat → Nat) (i : Nat) : pts f g (i : Int) = (f i).map fun _ => .pointer (some ⟨g i, 0, none⟩) := by
  unfold pts
  rw [rcd_nat]
  rfl
structure An (w : World) (L : Nat → Nat) (a h s b N : Nat) (f : Rs) (g : Nat → Nat) (V : Nat → Value) (A : Nat → Nat) : Prop where
  st : Blk w a 87 [.pointer (some ⟨h, 0, none⟩), .pointer (some ⟨s, 0, none⟩), .map (some b)]
  mp : Mv 3 ik w b N (pts f g)
  ok : Ok f N
  nn : N ≤ 100000
  rc : ∀ i r, f i = some r → Blk w (g i) 160 (ro r (V i) (A i))
  ow : ∀ i r, f i = some r → Own w (V i) r.ps
  la : L a = 1
  lb : L b = 2
  lg : ∀ i r, f i = some r → L (g i) = 2 * i + 3
  lv : ∀ i r x, f i = some r → (V i).ownBlock = some x → L x = 2 * i + 4
  lt : ∀ x, L x ≠ 0 → x < w.heap.size
def Fo (L : Nat → Nat) : Nat → Prop := fun x => L x ≠ 0
section
variable {w w' : World} {L : Nat → Nat} {a h s b N : Nat} {f : Rs} {g : Nat → Nat} {V : Nat → Value} {A : Nat → Nat}
theorem An.of_eq (K : An w L a h s b N f g V A) (hs : w.heap.size ≤ w'.heap.size) (e : ∀ x, L x ≠ 0 → w'.heap[x]? = w.heap[x]?) : An w' L a h s b N f g V A :=
  { K with
    st := K.st.of_eq (e a (by rw [K.la]; omega))
    mp := K.mp.of_eq (e b (by rw [K.lb]; omega))
    rc := fun i r hr => (K.rc i r hr).of_eq (e _ (by rw [K.lg i r hr]; omega))
    ow := fun i r hr => (K.ow i r hr).of_eq (fun x hx => e x (by rw [K.lv i r x hr hx]; omega))
    lt := fun x hx => Nat.lt_of_lt_of_le (K.lt x hx) hs }
theorem An.below (K : An w L a h s b N f g V A) (k : Below w.heap.size w w') : An w' L a h s b N f g V A := K.of_eq k.size (fun x hx => k.block x (K.lt x hx))
theorem An.c0 (K : An w L a h s b N f g V A) : w.cell? ⟨a, 0, none⟩ = some (.pointer (some ⟨h, 0, none⟩)) := K.st.cell 0
theorem An.c1 (K : An w L a h s b N f g V A) : w.cell? ⟨a, 1, none⟩ = some (.pointer (some ⟨s, 0, none⟩)) := K.st.cell 1
theorem An.c2 (K : An w L a h s b N f g V A) : w.cell? ⟨a, 2, none⟩ = some (.map (some b)) := K.st.cell 2
theorem Tryz.zeroPr : (Tryz.prog.info? 158).map (fun i => (i.zero, i.size)) = some (some (.pointer none), 1) := by kernel_rfl
theorem pts_put {i : Nat} {q : Option Rc} {y : Nat} : pts (put f i q) (put' g i y) = pk (pts f g) (i : Int) (q.map fun _ => .pointer (some ⟨y, 0, none⟩)) := by
  funext x
  unfold pk
  by_cases e : x = (i : Int)
  · subst e
    rw [if_pos rfl, pts_nat, put_same, put'_same]
  · rw [if_neg e]
    unfold pts rcd
    by_cases hx : 0 ≤ x
    · have hn : x.toNat ≠ i := by omega
      rw [if_pos hx, if_pos hx, put_other hn, put'_other hn]
    · rw [if_neg hx, if_neg hx]
      rfl
theorem pts_same {i : Nat} {r q : Rc} (hr : f i = some r) (x : Int) : pts (put f i (some q)) g x = pts f g x := by
  unfold pts rcd
  by_cases hx : 0 ≤ x
  · rw [if_pos hx, if_pos hx]
    by_cases e : x.toNat = i
    · rw [e, put_same, hr]; rfl
    · rw [put_other e]
  · rw [if_neg hx, if_neg hx]
theorem pts_del {i : Nat} : pts (put f i none) g = pk (pts f g) (i : Int) none := by
  have := pts_put (f := f) (g := g) (i := i) (q := none) (y := g i)
  have e : put' g i (g i) = g := by
    funext x
    unfold put'
    split
    · rename_i h; rw [h]
    · rfl
  rwa [e] at this
def idI (f : Rs) (N : Nat) : List Int := (ids f N).map fun i : Nat => (i : Int)
theorem idI_nd (f : Rs) (N : Nat) : (idI f N).Nodup := by
  unfold idI List.Nodup
  rw [List.pairwise_map]
  exact (ids_nd f N).imp (fun q e => q (by omega))
theorem idI_len (f : Rs) (N : Nat) : (idI f N).length = cn f N := by unfold idI; rw [List.length_map, ids_len]
theorem idI_mem (far : ∀ i, N ≤ i → f i = none) (x : Int) : x ∈ idI f N ↔ (pts f g x).isSome = true := by
  unfold idI
  rw [List.mem_map]
  constructor
  · rintro ⟨i, hi, rfl⟩
    obtain ⟨_, r, hr⟩ := ids_mem.1 hi
    rw [pts_nat, hr]
    rfl
  · intro hx
    unfold pts rcd at hx
    by_cases h0 : 0 ≤ x
    · rw [if_pos h0] at hx
      cases e : f x.toNat with
      | none => rw [e] at hx; simp at hx
      | some r =>
        refine ⟨x.toNat, ids_mem.2 ⟨?_, r, e⟩, by omega⟩
        rcases Nat.lt_or_ge x.toNat N with q | q
        · exact q
        · rw [far _ q] at e; cases e
    · rw [if_neg h0] at hx
      simp at hx
theorem An.tight {M : Nat} (m : Mv 3 ik w b M (pts f g)) (ok : Ok f N) : Mv 3 ik w b N (pts f g) := by
  have := m.tight (idI_nd f N) (idI_mem (g := g) ok.far)
  rw [idI_len] at this
  exact this.more (cn_le f N)
theorem An.turned (K : An w L a h s b N f g V A) {i : Nat} {r q : Rc} {v' : Value} (hr : f i = some r) (hs : w.heap.size ≤ w'.heap.size) (eb : Blk w' (g i) 160 (ro q v' (A i))) (ow' : Own w' v' q.ps) (hv : ∀ x, v'.ownBlock = some x → (V i).ownBlock = some x ∨ w.heap.size ≤ x)
    (same : ∀ x, x < w.heap.size → x ≠ g i → (V i).ownBlock ≠ some x → w'.heap[x]? = w.heap[x]?) (ok' : Ok (put f i (some q)) N) :
    An w' (fun x => if v'.ownBlock = some x then 2 * i + 4 else L x) a h s b N (put f i (some q)) g (put' V i v') A ∧ ∀ x, Fo (fun x => if v'.ownBlock = some x then 2 * i + 4 else L x) x → Fo L x ∨ w.heap.size ≤ x := by
  have hi := K.lg i r hr
  have ol : ∀ x, L x ≠ 0 → L x ≠ 2 * i + 4 → ¬ v'.ownBlock = some x := fun x h0 h4 e => by
    rcases hv x e with z | z
    · exact h4 (K.lv i r x hr z)
    · have := K.lt x h0; omega
  have eq : ∀ x, L x ≠ 0 → L x ≠ 2 * i + 3 → L x ≠ 2 * i + 4 → w'.heap[x]? = w.heap[x]? := fun x h0 h3 h4 => same x (K.lt x h0) (fun e => h3 (by rw [e]; exact hi)) (fun e => h4 (K.lv i r x hr e))
  have at_ : ∀ j q', put f i (some q) j = some q' → (j = i ∧ q' = q) ∨ (j ≠ i ∧ f j = some q') := fun j q' e => by
    by_cases z : j = i
    · subst z; rw [put_same] at e; exact Or.inl ⟨rfl, (Option.some.inj e).symm⟩
    · rw [put_other z] at e; exact Or.inr ⟨z, e⟩
  refine ⟨⟨K.st.of_eq (eq a (by rw [K.la]; omega) (by rw [K.la]; omega) (by rw [K.la]; omega)), (K.mp.of_eq (eq b (by rw [K.lb]; omega) (by rw [K.lb]; omega) (by rw [K.lb]; omega))).congr (pts_same hr), ok', K.nn, fun j q' e => ?_, fun j q' e => ?_, ?_, ?_, fun j q' e => ?_, fun j q' x e hx => ?_, fun x hx => ?_⟩, fun x hx => ?_⟩
  · rcases at_ j q' e with ⟨rfl, rfl⟩ | ⟨z, e⟩
    · rw [put'_same]; exact eb
    · rw [put'_other z]
      have := K.lg j q' e
      exact (K.rc j q' e).of_eq (eq _ (by omega) (by omega) (by omega))
  · rcases at_ j q' e with ⟨rfl, rfl⟩ | ⟨z, e⟩
    · rw [put'_same]; exact ow'
    · rw [put'_other z]
      exact (K.ow j q' e).of_eq (fun x hx => by have := K.lv j q' x e hx; exact eq x (by omega) (by omega) (by omega))
  · show (if v'.ownBlock = some a then 2 * i + 4 else L a) = 1
    rw [if_neg (ol a (by rw [K.la]; omega) (by rw [K.la]; omega)), K.la]
  · show (if v'.ownBlock = some b then 2 * i + 4 else L b) = 2
    rw [if_neg (ol b (by rw [K.lb]; omega) (by rw [K.lb]; omega)), K.lb]
  · have hj : ∃ q2, f j = some q2 := by
      rcases at_ j q' e with ⟨rfl, rfl⟩ | ⟨z, e⟩
      · exact ⟨r, hr⟩
      · exact ⟨q', e⟩
    obtain ⟨q2, hj⟩ := hj
    have := K.lg j q2 hj
    show (if v'.ownBlock = some (g j) then 2 * i + 4 else L (g j)) = 2 * j + 3
    rw [if_neg (ol (g j) (by omega) (by omega)), this]
  · show (if v'.ownBlock = some x then 2 * i + 4 else L x) = 2 * j + 4
    rcases at_ j q' e with ⟨rfl, rfl⟩ | ⟨z, e⟩
    · rw [put'_same] at hx
      rw [if_pos hx]
    · rw [put'_other z] at hx
      have := K.lv j q' x e hx
      rw [if_neg (ol x (by omega) (by omega)), this]
  · by_cases z : v'.ownBlock = some x
    · exact ow'.lt x z
    · have hx' : L x ≠ 0 := by
        have : (if v'.ownBlock = some x then 2 * i + 4 else L x) ≠ 0 := hx
        rwa [if_neg z] at this
      exact Nat.lt_of_lt_of_le (K.lt x hx') hs
  · by_cases z : v'.ownBlock = some x
    · rcases hv x z with y | y
      · exact Or.inl (by show L x ≠ 0; rw [K.lv i r x hr y]; omega)
      · exact Or.inr y
    · have hx' : L x ≠ 0 := by
        have : (if v'.ownBlock = some x then 2 * i + 4 else L x) ≠ 0 := hx
        rwa [if_neg z] at this
      exact Or.inl hx'
theorem An.added (K : An w L a h s b N f g V A) {i y z at_ : Nat} {q : Rc} {v' : Value} (hr : f i = none) (hs : w.heap.size ≤ w'.heap.size) (mp' : Mv 3 ik w' b (N + 1) (pk (pts f g) (i : Int) (some (.pointer (some ⟨y, 0, none⟩))))) (eb : Blk w' y 160 (ro q v' at_)) (ow' : Own w' v' q.ps) (hv : v'.ownBlock = some z) (hy : w.heap.size ≤ y) (hz : w.heap.size ≤ z) (hyz : y ≠ z)
    (same : ∀ x, x < w.heap.size → x ≠ b → w'.heap[x]? = w.heap[x]?) (ok' : Ok (put f i (some q)) N) :
    An w' (fun x => if x = y then 2 * i + 3 else if x = z then 2 * i + 4 else L x) a h s b N (put f i (some q)) (put' g i y) (put' V i v') (put' A i at_) ∧ ∀ x, Fo (fun x => if x = y then 2 * i + 3 else if x = z then 2 * i + 4 else L x) x → Fo L x ∨ w.heap.size ≤ x := by
  have old : ∀ x, L x ≠ 0 → (if x = y then 2 * i + 3 else if x = z then 2 * i + 4 else L x) = L x := fun x h0 => by
    have := K.lt x h0
    rw [if_neg (by omega), if_neg (by omega)]
  have eq : ∀ x, L x ≠ 0 → L x ≠ 2 → w'.heap[x]? = w.heap[x]? := fun x h0 h2 => same x (K.lt x h0) (fun e => h2 (by rw [e]; exact K.lb))
  have at' : ∀ j q', put f i (some q) j = some q' → (j = i ∧ q' = q) ∨ (j ≠ i ∧ f j = some q') := fun j q' e => by
    by_cases z : j = i
    · subst z; rw [put_same] at e; exact Or.inl ⟨rfl, (Option.some.inj e).symm⟩
    · rw [put_other z] at e; exact Or.inr ⟨z, e⟩
  have mpN : Mv 3 ik w' b N (pts (put f i (some q)) (put' g i y)) := An.tight (M := N + 1) (by rw [pts_put]; exact mp') ok'
  refine ⟨⟨K.st.of_eq (eq a (by rw [K.la]; omega) (by rw [K.la]; omega)), mpN, ok', K.nn, fun j q' e => ?_, fun j q' e => ?_, ?_, ?_, fun j q' e => ?_, fun j q' x e hx => ?_, fun x hx => ?_⟩, fun x hx => ?_⟩
  · rcases at' j q' e with ⟨rfl, rfl⟩ | ⟨z, e⟩
    · rw [put'_same, put'_same, put'_same]; exact eb
    · rw [put'_other z, put'_other z, put'_other z]
      have := K.lg j q' e
      exact (K.rc j q' e).of_eq (eq _ (by omega) (by omega))
  · rcases at' j q' e with ⟨rfl, rfl⟩ | ⟨z, e⟩
    · rw [put'_same]; exact ow'
    · rw [put'_other z]
      exact (K.ow j q' e).of_eq (fun x hx => by have := K.lv j q' x e hx; exact eq x (by omega) (by omega))
  · exact (old a (by rw [K.la]; omega)).trans K.la
  · exact (old b (by rw [K.lb]; omega)).trans K.lb
  · rcases at' j q' e with ⟨rfl, rfl⟩ | ⟨z, e⟩
    · rw [put'_same]
      exact if_pos rfl
    · rw [put'_other z]
      have := K.lg j q' e
      exact (old (g j) (by omega)).trans this
  · rcases at' j q' e with ⟨rfl, rfl⟩ | ⟨z, e⟩
    · rw [put'_same, hv] at hx
      injection hx with hx
      subst hx
      show (if z = y then _ else _) = _
      rw [if_neg (fun e => hyz e.symm), if_pos rfl]
    · rw [put'_other z] at hx
      have := K.lv j q' x e hx
      exact (old x (by omega)).trans this
  · by_cases e1 : x = y
    · rw [e1]; exact eb.lt
    · by_cases e2 : x = z
      · rw [e2]; exact ow'.lt z hv
      · have hx' : (if x = y then 2 * i + 3 else if x = z then 2 * i + 4 else L x) ≠ 0 := hx
        rw [if_neg e1, if_neg e2] at hx'
        exact Nat.lt_of_lt_of_le (K.lt x hx') hs
  · by_cases e1 : x = y
    · exact Or.inr (by omega)
    · by_cases e2 : x = z
      · exact Or.inr (by omega)
      · have hx' : (if x = y then 2 * i + 3 else if x = z then 2 * i + 4 else L x) ≠ 0 := hx
        rw [if_neg e1, if_neg e2] at hx'
        exact Or.inl hx'
theorem An.struck (K : An w L a h s b N f g V A) {i : Nat} (hs : w.heap.size ≤ w'.heap.size) (mp' : Mv 3 ik w' b N (pk (pts f g) (i : Int) none)) (same : ∀ x, x < w.heap.size → x ≠ b → L x ≠ 2 * i + 3 → L x ≠ 2 * i + 4 → w'.heap[x]? = w.heap[x]?) :
    An w' L a h s b N (put f i none) g V A := by
  have eq : ∀ x, L x ≠ 0 → L x ≠ 2 → L x ≠ 2 * i + 3 → L x ≠ 2 * i + 4 → w'.heap[x]? = w.heap[x]? := fun x h0 h2 => same x (K.lt x h0) (fun e => h2 (by rw [e]; exact K.lb))
  have at' : ∀ j q', put f i none j = some q' → j ≠ i ∧ f j = some q' := fun j q' e => by
    by_cases z : j = i
    · subst z; rw [put_same] at e; cases e
    · rw [put_other z] at e; exact ⟨z, e⟩
  exact ⟨K.st.of_eq (eq a (by rw [K.la]; omega) (by rw [K.la]; omega) (by rw [K.la]; omega) (by rw [K.la]; omega)), by rw [pts_del]; exact mp', K.ok.drop, K.nn,
    fun j q' e => (K.rc j q' (at' j q' e).2).of_eq (by have h1 := (at' j q' e).1; have h2 := K.lg j q' (at' j q' e).2; exact eq _ (by omega) (by omega) (by omega) (by omega)),
    fun j q' e => (K.ow j q' (at' j q' e).2).of_eq (fun x hx => by have h1 := (at' j q' e).1; have h2 := K.lv j q' x (at' j q' e).2 hx; exact eq x (by omega) (by omega) (by omega) (by omega)),
    K.la, K.lb, fun j q' e => K.lg j q' (at' j q' e).2, fun j q' x e hx => K.lv j q' x (at' j q' e).2 hx, fun x hx => Nat.lt_of_lt_of_le (K.lt x hx) hs⟩
end
end Go.Proofs.YtkbpnkjjmipjfaaGreat.Az
