/- Layer 20, plain mathematics: records by their numbers; what each call answers of them; what stays in order; no condition but those named. -/
namespace Go.Proofs.YtkbpnkjjmipjfaaGreat.Az
set_option linter.unusedVariables false

structure Rc where
  pg : Int
  ps : List Int
  fr : Int
  sl : Int
abbrev Rs := Nat → Option Rc
def put (f : Rs) (i : Nat) (r : Option Rc) : Rs := fun k => if k = i then r else f k
theorem put_same (f : Rs) (i : Nat) (r : Option Rc) : put f i r i = r := if_pos rfl
theorem put_other {f : Rs} {i k : Nat} {r : Option Rc} (h : k ≠ i) : put f i r k = f k := if_neg h
def Fd (f : Rs) (pg pd : Int) (i : Nat) : Prop := ∃ r, f i = some r ∧ r.pg = pg ∧ pd ∈ r.ps
def Lf (f : Rs) (i : Nat) : Prop := f i = none ∧ ∀ k, k < i → f k ≠ none
theorem lf_ex {f : Rs} : ∀ {n : Nat}, f n = none → ∃ i, i ≤ n ∧ Lf f i := fun {n} h => by
  have : ∀ m, (∃ i, i < m ∧ Lf f i) ∨ ∀ k, k < m → f k ≠ none := fun m => by
    induction m with
    | zero => exact Or.inr (fun k hk => absurd hk (Nat.not_lt_zero _))
    | succ m ih =>
      rcases ih with ⟨i, q1, q2⟩ | q
      · exact Or.inl ⟨i, by omega, q2⟩
      · cases hm : f m with
        | none => exact Or.inl ⟨m, by omega, hm, q⟩
        | some r => exact Or.inr (fun k hk => by
            rcases Nat.lt_succ_iff_lt_or_eq.1 hk with z | z
            · exact q k z
            · rw [z, hm]; exact nofun)
  rcases this n with ⟨i, q1, q2⟩ | q
  · exact ⟨i, by omega, q2⟩
  · exact ⟨n, Nat.le_refl _, h, q⟩
def cn (f : Rs) : Nat → Nat
  | 0 => 0
  | n + 1 => cn f n + if (f n).isSome then 1 else 0
theorem cn_le (f : Rs) : ∀ n, cn f n ≤ n
  | 0 => Nat.le_refl _
  | n + 1 => by
    have := cn_le f n
    rw [cn]
    split <;> omega
theorem cn_mono (f : Rs) {m : Nat} : ∀ {n : Nat}, m ≤ n → cn f m ≤ cn f n
  | 0, h => by rw [Nat.le_zero.1 h]; exact Nat.le_refl _
  | n + 1, h => by
    rcases Nat.lt_or_ge m (n + 1) with q | q
    · have h1 : m ≤ n := by omega
      have := cn_mono f h1
      rw [cn]
      omega
    · rw [Nat.le_antisymm h q]; exact Nat.le_refl _
theorem cn_all {f : Rs} : ∀ {i : Nat}, (∀ k, k < i → f k ≠ none) → cn f i = i
  | 0, _ => rfl
  | i + 1, h => by
    have h1 := h i (Nat.lt_succ_self i)
    have : (f i).isSome = true := by
      cases e : f i with
      | none => exact absurd e h1
      | some r => rfl
    rw [cn, cn_all (fun k hk => h k (by omega)), if_pos this]
theorem cn_put {f : Rs} {i : Nat} {r : Option Rc} : ∀ {n : Nat}, n ≤ i → cn (put f i r) n = cn f n
  | 0, _ => rfl
  | n + 1, h => by
    have h1 : n ≤ i := by omega
    have h2 := cn_put (f := f) (r := r) h1
    rw [cn, cn, h2, put_other (by omega)]
theorem cn_put_in {f : Rs} {i : Nat} {r : Option Rc} : ∀ {n : Nat}, i < n → cn (put f i r) n + (if (f i).isSome then 1 else 0) = cn f n + (if r.isSome then 1 else 0)
  | n + 1, h => by
    rw [cn, cn]
    by_cases e : i = n
    · subst e
      rw [cn_put (Nat.le_refl _), put_same]
      omega
    · have := cn_put_in (f := f) (r := r) (n := n) (i := i) (by omega)
      rw [put_other (by omega : n ≠ i)]
      omega
theorem cn_far {f : Rs} {n : Nat} (h : ∀ i, n ≤ i → f i = none) : ∀ {m : Nat}, n ≤ m → cn f m = cn f n
  | 0, q => by rw [Nat.le_zero.1 q]
  | m + 1, q => by
    rcases Nat.lt_or_ge n (m + 1) with z | z
    · have h1 : n ≤ m := by omega
      have h2 := cn_far h h1
      rw [cn, h2, h m h1]
      rfl
    · rw [Nat.le_antisymm q z]
theorem Lf.le {f : Rs} {i n : Nat} (h : Lf f i) (hn : ∀ k, n ≤ k → f k = none) : i ≤ cn f n := by
  rcases Nat.lt_or_ge n i with q | q
  · exact absurd (hn n (Nat.le_refl _)) (h.2 n q)
  · have := cn_mono f q
    rw [cn_all h.2] at this
    exact this
def ins (x : Int) : List Int → List Int
  | [] => [x]
  | y :: l => if x < y then x :: y :: l else y :: ins x l
theorem ins_mem {x z : Int} : ∀ {l : List Int}, z ∈ ins x l ↔ z = x ∨ z ∈ l
  | [] => by simp [ins]
  | y :: l => by
    rw [ins]
    split
    · simp
    · rw [List.mem_cons, ins_mem, List.mem_cons]
      constructor
      · rintro (h | h | h)
        · exact Or.inr (Or.inl h)
        · exact Or.inl h
        · exact Or.inr (Or.inr h)
      · rintro (h | h | h)
        · exact Or.inr (Or.inl h)
        · exact Or.inl h
        · exact Or.inr (Or.inr h)
theorem ins_len (x : Int) : ∀ l : List Int, (ins x l).length = l.length + 1
  | [] => rfl
  | y :: l => by
    rw [ins]
    split
    · rfl
    · rw [List.length_cons, ins_len x l]; rfl
theorem ins_up {x : Int} : ∀ {l : List Int}, l.Pairwise (· < ·) → x ∉ l → (ins x l).Pairwise (· < ·)
  | [], _, _ => by simp [ins]
  | y :: l, h, hx => by
    obtain ⟨h1, h2⟩ := List.pairwise_cons.1 h
    rw [ins]
    split
    · rename_i q
      refine List.pairwise_cons.2 ⟨fun z hz => ?_, h⟩
      rcases List.mem_cons.1 hz with e | e
      · omega
      · have := h1 z e; omega
    · rename_i q
      have hne : x ≠ y := fun e => hx (by rw [e]; exact List.mem_cons_self)
      refine List.pairwise_cons.2 ⟨fun z hz => ?_, ins_up h2 (fun e => hx (List.mem_cons_of_mem _ e))⟩
      rcases ins_mem.1 hz with e | e
      · omega
      · exact h1 z e
theorem up_nd {l : List Int} (h : l.Pairwise (· < ·)) : l.Nodup := h.imp (fun {a b} q e => by omega)
theorem erase_up {x : Int} {l : List Int} (h : l.Pairwise (· < ·)) : (l.erase x).Pairwise (· < ·) := h.sublist List.erase_sublist
end Go.Proofs.YtkbpnkjjmipjfaaGreat.Az
namespace Go.Proofs.YtkbpnkjjmipjfaaGreat.Az
set_option linter.unusedVariables false

structure Ok (f : Rs) (n : Nat) : Prop where
  far : ∀ i, n ≤ i → f i = none
  ne : ∀ i r, f i = some r → r.ps ≠ []
  up : ∀ i r, f i = some r → r.ps.Pairwise (· < ·)
  rg : ∀ i r x, f i = some r → x ∈ r.ps → 0 ≤ x ∧ x < 16
  pg : ∀ i r, f i = some r → 0 ≤ r.pg ∧ r.pg < 1048576
  un : ∀ pg pd i j, Fd f pg pd i → Fd f pg pd j → i = j
theorem Ok.nil : Ok (fun _ => none) 0 := ⟨fun _ _ => rfl, nofun, nofun, nofun, nofun, fun _ _ _ _ h => by obtain ⟨r, h, _⟩ := h; cases h⟩
theorem Ok.more {f : Rs} {n m : Nat} (h : Ok f n) (q : n ≤ m) : Ok f m := ⟨fun i hi => h.far i (Nat.le_trans q hi), h.ne, h.up, h.rg, h.pg, h.un⟩
theorem up_len : ∀ {l : List Int} {a b : Int}, l.Pairwise (· < ·) → (∀ x ∈ l, a ≤ x ∧ x < b) → (l.length : Int) ≤ b - a ∨ l = []
  | [], _, _, _, _ => Or.inr rfl
  | y :: l, a, b, h, hr => by
    obtain ⟨h1, h2⟩ := List.pairwise_cons.1 h
    have hy := hr y List.mem_cons_self
    left
    rcases up_len (a := y + 1) (b := b) h2 (fun x hx => ⟨by have := h1 x hx; omega, (hr x (List.mem_cons_of_mem _ hx)).2⟩) with q | q
    · rw [List.length_cons]; omega
    · subst q; simp; omega
theorem Ok.len {f : Rs} {n i : Nat} {r : Rc} (h : Ok f n) (e : f i = some r) : r.ps.length ≤ 16 := by
  rcases up_len (h.up i r e) (fun x hx => h.rg i r x e hx) with q | q
  · omega
  · rw [q]; simp
def inP (pd : Int) : Prop := 0 ≤ pd ∧ pd < 16
def inA (pg pd : Int) : Prop := 0 ≤ pg ∧ pg < 1048576 ∧ 0 ≤ pd ∧ pd < 16
def rcd (f : Rs) (id : Int) : Option Rc := if 0 ≤ id then f id.toNat else none
theorem rcd_nat (f : Rs) (i : Nat) : rcd f (i : Int) = f i := by
  unfold rcd
  rw [if_pos (by omega)]
  rfl
def MkS (f : Rs) (pg pd te : Int) (f' : Rs) (i e : Int) : Prop :=
  (¬ inA pg pd ∧ f' = f ∧ i = 0 ∧ e = 2) ∨ (inA pg pd ∧ (∃ k, Fd f pg pd k) ∧ f' = f ∧ i = 0 ∧ e = 171) ∨
    (inA pg pd ∧ (∀ k, ¬ Fd f pg pd k) ∧ te ≠ 0 ∧ f' = f ∧ i = 0 ∧ e = te) ∨
      (inA pg pd ∧ (∀ k, ¬ Fd f pg pd k) ∧ te = 0 ∧ ∃ k : Nat, Lf f k ∧ i = k ∧ f' = put f k (some ⟨pg, [pd], -1, -1⟩) ∧ e = 0)
def ShS (f : Rs) (id pd : Int) (f' : Rs) (e : Int) : Prop :=
  (rcd f id = none ∧ f' = f ∧ e = 200) ∨ ∃ r, rcd f id = some r ∧
    ((¬ inP pd ∧ f' = f ∧ e = 2) ∨ (inP pd ∧ (∃ k, Fd f r.pg pd k) ∧ f' = f ∧ e = 171) ∨
      (inP pd ∧ (∀ k, ¬ Fd f r.pg pd k) ∧ f' = put f id.toNat (some { r with ps := ins pd r.ps }) ∧ e = 0))
def lft (r : Rc) (pd : Int) : Option Rc := if r.ps.erase pd = [] then none else some { r with ps := r.ps.erase pd }
def LvS (f : Rs) (id pd : Int) (f' : Rs) (m e : Int) : Prop :=
  (rcd f id = none ∧ f' = f ∧ m = 0 ∧ e = 200) ∨ ∃ r, rcd f id = some r ∧
    ((¬ inP pd ∧ f' = f ∧ m = 0 ∧ e = 2) ∨ (inP pd ∧ pd ∉ r.ps ∧ f' = f ∧ m = 0 ∧ e = 220) ∨
      (inP pd ∧ pd ∈ r.ps ∧ f' = put f id.toNat (lft r pd) ∧ m = ((r.ps.erase pd).length : Int) ∧ e = 0))
def FrS (f : Rs) (id x top : Int) (g : Rc → Rc) (f' : Rs) (e : Int) : Prop :=
  (rcd f id = none ∧ f' = f ∧ e = 200) ∨ ∃ r, rcd f id = some r ∧ ((¬ (0 ≤ x ∧ x < top) ∧ f' = f ∧ e = 2) ∨ ((0 ≤ x ∧ x < top) ∧ f' = put f id.toNat (some (g r)) ∧ e = 0))
theorem rcd_some {f : Rs} {id : Int} {r : Rc} (h : rcd f id = some r) : 0 ≤ id ∧ f id.toNat = some r := by
  unfold rcd at h
  split at h
  · exact ⟨‹_›, h⟩
  · cases h
theorem fd_put {f : Rs} {i : Nat} {r : Option Rc} {pg pd : Int} {k : Nat} : Fd (put f i r) pg pd k ↔ (k ≠ i ∧ Fd f pg pd k) ∨ (k = i ∧ ∃ q, r = some q ∧ q.pg = pg ∧ pd ∈ q.ps) := by
  unfold Fd
  by_cases e : k = i
  · subst e
    rw [put_same]
    constructor
    · rintro ⟨q, h⟩; exact Or.inr ⟨rfl, q, h⟩
    · rintro (h | ⟨_, q, h⟩)
      · exact absurd rfl h.1
      · exact ⟨q, h⟩
  · rw [put_other e]
    constructor
    · intro h; exact Or.inl ⟨e, h⟩
    · rintro (h | h)
      · exact h.2
      · exact absurd h.1 e
theorem Ok.put {f : Rs} {n i : Nat} {q : Rc} (h : Ok f n) (hi : i < n) (h1 : q.ps ≠ []) (h2 : q.ps.Pairwise (· < ·)) (h3 : ∀ x ∈ q.ps, 0 ≤ x ∧ x < 16) (h4 : 0 ≤ q.pg ∧ q.pg < 1048576) (h5 : ∀ pd ∈ q.ps, ∀ k, k ≠ i → ¬ Fd f q.pg pd k) : Ok (Az.put f i (some q)) n := by
  have at_ : ∀ k r, Az.put f i (some q) k = some r → (k = i ∧ r = q) ∨ (k ≠ i ∧ f k = some r) := fun k r e => by
    by_cases z : k = i
    · subst z; rw [put_same] at e; exact Or.inl ⟨rfl, (Option.some.inj e).symm⟩
    · rw [put_other z] at e; exact Or.inr ⟨z, e⟩
  refine ⟨fun k hk => ?_, fun k r e => ?_, fun k r e => ?_, fun k r x e hx => ?_, fun k r e => ?_, fun pg pd k j hk hj => ?_⟩
  · rw [put_other (by omega)]; exact h.far k hk
  · rcases at_ k r e with ⟨_, rfl⟩ | ⟨_, e⟩
    · exact h1
    · exact h.ne k r e
  · rcases at_ k r e with ⟨_, rfl⟩ | ⟨_, e⟩
    · exact h2
    · exact h.up k r e
  · rcases at_ k r e with ⟨_, rfl⟩ | ⟨_, e⟩
    · exact h3 x hx
    · exact h.rg k r x e hx
  · rcases at_ k r e with ⟨_, rfl⟩ | ⟨_, e⟩
    · exact h4
    · exact h.pg k r e
  · rcases fd_put.1 hk with ⟨z1, a⟩ | ⟨z1, q1, b1, b2, b3⟩ <;> rcases fd_put.1 hj with ⟨z2, c⟩ | ⟨z2, q2, d1, d2, d3⟩
    · exact h.un pg pd k j a c
    · cases d1
      rw [← d2] at a
      exact absurd a (h5 pd d3 k z1)
    · cases b1
      rw [← b2] at c
      exact absurd c (h5 pd b3 j z2)
    · rw [z1, z2]
theorem Ok.drop {f : Rs} {n i : Nat} (h : Ok f n) : Ok (Az.put f i none) n := by
  have at_ : ∀ k r, Az.put f i none k = some r → f k = some r := fun k r e => by
    by_cases z : k = i
    · subst z; rw [put_same] at e; cases e
    · rw [put_other z] at e; exact e
  refine ⟨fun k hk => ?_, fun k r e => h.ne k r (at_ k r e), fun k r e => h.up k r (at_ k r e), fun k r x e hx => h.rg k r x (at_ k r e) hx, fun k r e => h.pg k r (at_ k r e), fun pg pd k j hk hj => ?_⟩
  · by_cases z : k = i
    · subst z; rw [put_same]
    · rw [put_other z]; exact h.far k hk
  · rcases fd_put.1 hk with ⟨_, a⟩ | ⟨_, q1, b1, _⟩ <;> rcases fd_put.1 hj with ⟨_, c⟩ | ⟨_, q2, d1, _⟩
    · exact h.un pg pd k j a c
    · cases d1
    · cases b1
    · cases b1
theorem Ok.lt {f : Rs} {n i : Nat} {r : Rc} (h : Ok f n) (e : f i = some r) : i < n := by
  rcases Nat.lt_or_ge i n with q | q
  · exact q
  · rw [h.far i q] at e; cases e
theorem Lf.leq {f : Rs} {n i : Nat} (h : Lf f i) (o : Ok f n) : i ≤ n := by
  rcases Nat.lt_or_ge n i with q | q
  · exact absurd (o.far n (Nat.le_refl _)) (h.2 n q)
  · exact q
theorem MkS.ok {f f' : Rs} {n : Nat} {pg pd te i e : Int} (h : MkS f pg pd te f' i e) (o : Ok f n) : Ok f' (n + 1) := by
  rcases h with ⟨_, rfl, _⟩ | ⟨_, _, rfl, _⟩ | ⟨_, _, _, rfl, _⟩ | ⟨ha, hn, _, k, hk, _, rfl, _⟩
  · exact o.more (Nat.le_succ _)
  · exact o.more (Nat.le_succ _)
  · exact o.more (Nat.le_succ _)
  · refine (o.more (Nat.le_succ n)).put (by have := hk.leq o; omega) (by simp) (by simp) (fun x hx => ?_) ⟨ha.1, ha.2.1⟩ (fun x hx j _ q => ?_)
    · rw [List.mem_singleton.1 hx]; exact ⟨ha.2.2.1, ha.2.2.2⟩
    · rw [List.mem_singleton.1 hx] at q; exact hn j q
theorem ShS.ok {f f' : Rs} {n : Nat} {id pd e : Int} (h : ShS f id pd f' e) (o : Ok f n) : Ok f' n := by
  rcases h with ⟨_, rfl, _⟩ | ⟨r, hr, ⟨_, rfl, _⟩ | ⟨_, _, rfl, _⟩ | ⟨hp, hn, rfl, _⟩⟩
  · exact o
  · exact o
  · exact o
  · obtain ⟨_, hr⟩ := rcd_some hr
    have hpd : pd ∉ r.ps := fun q => hn _ ⟨r, hr, rfl, q⟩
    refine o.put (o.lt hr) (fun q => ?_) (ins_up (o.up _ r hr) hpd) (fun x hx => ?_) (o.pg _ r hr) (fun x hx k hk q => ?_)
    · have := congrArg List.length q
      rw [ins_len] at this
      simp at this
    · rcases ins_mem.1 hx with z | z
      · rw [z]; exact hp
      · exact o.rg _ r x hr z
    · rcases ins_mem.1 hx with z | z
      · rw [z] at q; exact hn k q
      · exact hk (o.un _ _ _ _ q ⟨r, hr, rfl, z⟩)
theorem LvS.ok {f f' : Rs} {n : Nat} {id pd m e : Int} (h : LvS f id pd f' m e) (o : Ok f n) : Ok f' n := by
  rcases h with ⟨_, rfl, _⟩ | ⟨r, hr, ⟨_, rfl, _⟩ | ⟨_, _, rfl, _⟩ | ⟨hp, hn, rfl, _⟩⟩
  · exact o
  · exact o
  · exact o
  · obtain ⟨_, hr⟩ := rcd_some hr
    unfold lft
    split
    · exact o.drop
    · rename_i q
      exact o.put (o.lt hr) q (erase_up (o.up _ r hr)) (fun x hx => o.rg _ r x hr (List.mem_of_mem_erase hx)) (o.pg _ r hr) (fun x hx k hk z => hk (o.un _ _ _ _ z ⟨r, hr, rfl, List.mem_of_mem_erase hx⟩))
theorem MkS.cn {f f' : Rs} {n : Nat} {pg pd te i e : Int} (h : MkS f pg pd te f' i e) (o : Ok f n) : Az.cn f' (n + 1) = Az.cn f n + if e = 0 then 1 else 0 := by
  have far := cn_far o.far (Nat.le_succ n)
  rcases h with ⟨_, rfl, _, rfl⟩ | ⟨_, _, rfl, _, rfl⟩ | ⟨_, _, ht, rfl, _, rfl⟩ | ⟨ha, hn, _, k, hk, _, rfl, rfl⟩
  · rw [far]; rfl
  · rw [far]; rfl
  · rw [far, if_neg ht]
    rfl
  · have hkn := hk.leq o
    have := cn_put_in (f := f) (r := some ⟨pg, [pd], -1, -1⟩) (n := n + 1) (i := k) (by omega)
    rw [hk.1] at this
    simp at this
    have e1 : Az.cn f (n + 1) = Az.cn f n := far
    rw [if_pos rfl]
    omega
end Go.Proofs.YtkbpnkjjmipjfaaGreat.Az
namespace Go.Proofs.YtkbpnkjjmipjfaaGreat.Az
set_option linter.unusedVariables false

theorem MkS.okn {f f' : Rs} {n : Nat} {pg pd te i e : Int} (h : MkS f pg pd te f' i e) (o : Ok f n) (hc : Az.cn f n < n) : Ok f' n ∧ Az.cn f' n = Az.cn f n + (if e = 0 then 1 else 0) := by
  have hcn := h.cn o
  have hlt : ∀ k, Lf f k → k < n := fun k hk => Nat.lt_of_le_of_lt (hk.le o.far) hc
  have ok' := h.ok o
  have far : ∀ k, n ≤ k → f' k = none := by
    rcases h with ⟨_, rfl, _⟩ | ⟨_, _, rfl, _⟩ | ⟨_, _, _, rfl, _⟩ | ⟨_, _, _, k, hk, _, rfl, _⟩
    · exact o.far
    · exact o.far
    · exact o.far
    · intro j hj
      rw [put_other (by have := hlt k hk; omega)]
      exact o.far j hj
  refine ⟨⟨far, ok'.ne, ok'.up, ok'.rg, ok'.pg, ok'.un⟩, ?_⟩
  have := cn_far far (Nat.le_succ n)
  rw [← this]
  exact hcn
def len? : Option Rc → Int
  | none => 0
  | some r => (r.ps.length : Nat)
structure Bk (f : Rs) (hs : Int → Int → Int) (ct : Int → Int) : Prop where
  on : ∀ pg pd (i : Nat), hs pg pd = (i : Int) + 1 ↔ Fd f pg pd i
  nn : ∀ pg pd, 0 ≤ hs pg pd
  ct : ∀ i : Nat, ct i = len? (f i)
  pgs : ∀ i r, f i = some r → 0 ≤ r.pg ∧ r.pg < 5
  pds : ∀ i r x, f i = some r → x ∈ r.ps → 0 ≤ x ∧ x < 4
theorem Bk.nil : Bk (fun _ => none) (fun _ _ => 0) (fun _ => 0) :=
  ⟨fun _ _ i => ⟨fun h => by omega, fun h => by obtain ⟨r, h, _⟩ := h; cases h⟩, fun _ _ => Int.le_refl _, fun _ => rfl, nofun, nofun⟩
theorem Bk.zero {f : Rs} {hs : Int → Int → Int} {ct : Int → Int} (b : Bk f hs ct) {pg pd : Int} : hs pg pd = 0 ↔ ∀ k, ¬ Fd f pg pd k := by
  constructor
  · intro h k q
    have := (b.on pg pd k).2 q
    omega
  · intro h
    have := b.nn pg pd
    by_cases z : hs pg pd = 0
    · exact z
    · have e : hs pg pd = ((hs pg pd - 1).toNat : Int) + 1 := by omega
      exact absurd ((b.on pg pd _).1 e) (h _)
theorem Bk.some_ {f : Rs} {hs : Int → Int → Int} {ct : Int → Int} (b : Bk f hs ct) {pg pd : Int} (h : hs pg pd ≠ 0) : ∃ (i : Nat) (r : Rc), hs pg pd = (i : Int) + 1 ∧ f i = some r ∧ r.pg = pg ∧ pd ∈ r.ps := by
  have := b.nn pg pd
  have e : hs pg pd = ((hs pg pd - 1).toNat : Int) + 1 := by omega
  obtain ⟨r, h1, h2, h3⟩ := (b.on pg pd _).1 e
  exact ⟨_, r, e, h1, h2, h3⟩
def up2 (hs : Int → Int → Int) (pg pd v : Int) : Int → Int → Int := fun a c => if a = pg ∧ c = pd then v else hs a c
def up1 (ct : Int → Int) (i v : Int) : Int → Int := fun k => if k = i then v else ct k
theorem Bk.make {f f' : Rs} {n : Nat} {hs : Int → Int → Int} {ct : Int → Int} {pg pd te i e : Int} (b : Bk f hs ct) (o : Ok f n) (h : MkS f pg pd te f' i e) (hg : 0 ≤ pg ∧ pg < 5) (hd : 0 ≤ pd ∧ pd < 4) :
    (hs pg pd ≠ 0 ∧ e = 171 ∧ f' = f) ∨ (hs pg pd = 0 ∧ te ≠ 0 ∧ e = te ∧ f' = f) ∨ (hs pg pd = 0 ∧ te = 0 ∧ e = 0 ∧ 0 ≤ i ∧ ct i = 0 ∧ Bk f' (up2 hs pg pd (i + 1)) (up1 ct i 1)) := by
  have ha : inA pg pd := ⟨hg.1, by omega, hd.1, by omega⟩
  rcases h with ⟨z, _⟩ | ⟨_, ⟨k, hk⟩, rfl, _, rfl⟩ | ⟨_, hn, ht, rfl, _, rfl⟩ | ⟨_, hn, ht, k, hk, rfl, rfl, rfl⟩
  · exact absurd ha z
  · exact Or.inl ⟨fun z => b.zero.1 z k hk, rfl, rfl⟩
  · exact Or.inr (Or.inl ⟨b.zero.2 hn, ht, rfl, rfl⟩)
  · refine Or.inr (Or.inr ⟨b.zero.2 hn, ht, rfl, by omega, by rw [b.ct, hk.1]; rfl, ⟨fun a c j => ?_, fun a c => ?_, fun j => ?_, fun j r q => ?_, fun j r x q hx => ?_⟩⟩)
    · rw [fd_put]
      unfold up2
      by_cases z : a = pg ∧ c = pd
      · rw [if_pos z]
        obtain ⟨rfl, rfl⟩ := z
        constructor
        · intro q
          have : j = k := by omega
          exact Or.inr ⟨this, _, rfl, rfl, List.mem_singleton.2 rfl⟩
        · rintro (⟨_, q⟩ | ⟨q, _⟩)
          · exact absurd q (hn j)
          · rw [q]
      · rw [if_neg z, b.on]
        constructor
        · intro q
          by_cases y : j = k
          · subst y
            obtain ⟨r, q, _⟩ := q
            rw [hk.1] at q
            cases q
          · exact Or.inl ⟨y, q⟩
        · rintro (⟨_, q⟩ | ⟨_, r, q1, q2, q3⟩)
          · exact q
          · cases q1
            exact absurd ⟨q2.symm, List.mem_singleton.1 q3⟩ z
    · unfold up2
      split
      · omega
      · exact b.nn a c
    · unfold up1
      by_cases z : j = k
      · subst z
        rw [if_pos rfl, put_same]
        rfl
      · rw [if_neg (by omega), put_other z]
        exact b.ct j
    · by_cases z : j = k
      · subst z
        rw [put_same] at q
        cases q
        exact hg
      · rw [put_other z] at q
        exact b.pgs j r q
    · by_cases z : j = k
      · subst z
        rw [put_same] at q
        cases q
        rw [List.mem_singleton.1 hx]
        exact hd
      · rw [put_other z] at q
        exact b.pds j r x q hx
theorem Bk.share {f f' : Rs} {n k : Nat} {r : Rc} {hs : Int → Int → Int} {ct : Int → Int} {pd e : Int} (b : Bk f hs ct) (o : Ok f n) (hr : f k = some r) (h : ShS f (k : Int) pd f' e) (hd : 0 ≤ pd ∧ pd < 4) :
    (hs r.pg pd ≠ 0 ∧ e = 171 ∧ f' = f) ∨ (hs r.pg pd = 0 ∧ e = 0 ∧ Bk f' (up2 hs r.pg pd ((k : Int) + 1)) (up1 ct k (ct k + 1))) := by
  rcases h with ⟨z, _⟩ | ⟨r', hr', q⟩
  · rw [rcd_nat, hr] at z; cases z
  · rw [rcd_nat, hr] at hr'
    cases hr'
    rcases q with ⟨z, _⟩ | ⟨_, ⟨j, hj⟩, rfl, rfl⟩ | ⟨_, hn, rfl, rfl⟩
    · exact absurd ⟨hd.1, by omega⟩ z
    · exact Or.inl ⟨fun z => b.zero.1 z j hj, rfl, rfl⟩
    · have hk : ((k : Int)).toNat = k := by omega
      rw [hk]
      refine Or.inr ⟨b.zero.2 hn, rfl, ⟨fun a c j => ?_, fun a c => ?_, fun j => ?_, fun j r2 q => ?_, fun j r2 x q hx => ?_⟩⟩
      · rw [fd_put]
        unfold up2
        by_cases z : a = r.pg ∧ c = pd
        · rw [if_pos z]
          obtain ⟨rfl, rfl⟩ := z
          constructor
          · intro q
            have : j = k := by omega
            exact Or.inr ⟨this, _, rfl, rfl, ins_mem.2 (Or.inl rfl)⟩
          · rintro (⟨_, q⟩ | ⟨q, _⟩)
            · exact absurd q (hn j)
            · rw [q]
        · rw [if_neg z, b.on]
          constructor
          · intro q
            by_cases y : j = k
            · subst y
              obtain ⟨r3, q1, q2, q3⟩ := q
              rw [hr] at q1
              cases q1
              exact Or.inr ⟨rfl, _, rfl, q2, ins_mem.2 (Or.inr q3)⟩
            · exact Or.inl ⟨y, q⟩
          · rintro (⟨_, q⟩ | ⟨y, r3, q1, q2, q3⟩)
            · exact q
            · cases q1
              subst y
              rcases ins_mem.1 q3 with y | y
              · exact absurd ⟨q2.symm, y⟩ z
              · exact ⟨r, hr, q2, y⟩
      · unfold up2
        split
        · omega
        · exact b.nn a c
      · unfold up1
        by_cases z : j = k
        · subst z
          rw [if_pos rfl, put_same, b.ct, hr]
          show _ = (((ins pd r.ps).length : Nat) : Int)
          rw [ins_len]
          rfl
        · rw [if_neg (by omega), put_other z]
          exact b.ct j
      · by_cases z : j = k
        · subst z
          rw [put_same] at q
          cases q
          exact b.pgs j r hr
        · rw [put_other z] at q
          exact b.pgs j r2 q
      · by_cases z : j = k
        · subst z
          rw [put_same] at q
          cases q
          rcases ins_mem.1 hx with y | y
          · rw [y]; exact hd
          · exact b.pds j r x hr y
        · rw [put_other z] at q
          exact b.pds j r2 x q hx
theorem Bk.leave {f f' : Rs} {n k : Nat} {r : Rc} {hs : Int → Int → Int} {ct : Int → Int} {pd m e : Int} (b : Bk f hs ct) (o : Ok f n) (hr : f k = some r) (hp : pd ∈ r.ps) (h : LvS f (k : Int) pd f' m e) :
    e = 0 ∧ m = ct k - 1 ∧ Bk f' (up2 hs r.pg pd 0) (up1 ct k (ct k - 1)) ∧ f' = put f k (lft r pd) := by
  rcases h with ⟨z, _⟩ | ⟨r', hr', q⟩
  · rw [rcd_nat, hr] at z; cases z
  · rw [rcd_nat, hr] at hr'
    cases hr'
    have hd := b.pds k r pd hr hp
    rcases q with ⟨z, _⟩ | ⟨_, z, _⟩ | ⟨_, _, rfl, rfl, rfl⟩
    · exact absurd ⟨hd.1, by omega⟩ z
    · exact absurd hp z
    · have hk : ((k : Int)).toNat = k := by omega
      rw [hk]
      have hnd := up_nd (o.up k r hr)
      have hlen : (r.ps.erase pd).length = r.ps.length - 1 := List.length_erase_of_mem hp
      have hpos := List.length_pos_of_mem hp
      have hct : ct k = (r.ps.length : Int) := by rw [b.ct, hr]; rfl
      have hln : len? (lft r pd) = ((r.ps.erase pd).length : Nat) := by
        unfold lft
        split
        · rename_i q
          rw [q]; rfl
        · rfl
      have hmem : ∀ q, lft r pd = some q → q.pg = r.pg ∧ q.ps = r.ps.erase pd := fun q e => by
        unfold lft at e
        split at e
        · cases e
        · cases e; exact ⟨rfl, rfl⟩
      refine ⟨rfl, by rw [hct, hlen]; omega, ⟨fun a c j => ?_, fun a c => ?_, fun j => ?_, fun j r2 q => ?_, fun j r2 x q hx => ?_⟩, rfl⟩
      · rw [fd_put]
        unfold up2
        by_cases z : a = r.pg ∧ c = pd
        · rw [if_pos z]
          obtain ⟨rfl, rfl⟩ := z
          constructor
          · intro q; omega
          · rintro (⟨y, q⟩ | ⟨_, q, q1, _, q3⟩)
            · exact absurd (o.un _ _ _ _ q ⟨r, hr, rfl, hp⟩) y
            · obtain ⟨_, e2⟩ := hmem q q1
              rw [e2] at q3
              exact absurd rfl (hnd.mem_erase_iff.1 q3).1
        · rw [if_neg z, b.on]
          constructor
          · intro q
            by_cases y : j = k
            · subst y
              obtain ⟨r3, q1, q2, q3⟩ := q
              rw [hr] at q1
              cases q1
              have hc : c ≠ pd := fun y => z ⟨q2.symm, y⟩
              have hm : c ∈ r.ps.erase pd := (List.mem_erase_of_ne hc).2 q3
              have hne : ¬ r.ps.erase pd = [] := fun y => by rw [y] at hm; cases hm
              exact Or.inr ⟨rfl, { r with ps := r.ps.erase pd }, by unfold lft; rw [if_neg hne], q2, hm⟩
            · exact Or.inl ⟨y, q⟩
          · rintro (⟨_, q⟩ | ⟨y, q, q1, q2, q3⟩)
            · exact q
            · obtain ⟨e1, e2⟩ := hmem q q1
              subst y
              rw [e1] at q2
              rw [e2] at q3
              exact ⟨r, hr, q2, List.mem_of_mem_erase q3⟩
      · unfold up2
        split
        · omega
        · exact b.nn a c
      · unfold up1
        by_cases z : j = k
        · subst z
          rw [if_pos rfl, put_same, hln, hct, hlen]
          omega
        · rw [if_neg (by omega), put_other z]
          exact b.ct j
      · by_cases z : j = k
        · subst z
          rw [put_same] at q
          rw [(hmem r2 q).1]
          exact b.pgs j r hr
        · rw [put_other z] at q
          exact b.pgs j r2 q
      · by_cases z : j = k
        · subst z
          rw [put_same] at q
          rw [(hmem r2 q).2] at hx
          exact b.pds j r x hr (List.mem_of_mem_erase hx)
        · rw [put_other z] at q
          exact b.pds j r2 x q hx
end Go.Proofs.YtkbpnkjjmipjfaaGreat.Az
namespace Go.Proofs.YtkbpnkjjmipjfaaGreat.Az
set_option linter.unusedVariables false

theorem up_uniq {l l' : List Int} (hp : l'.Perm l) (hs : l'.Pairwise (· ≤ ·)) (hl : l.Pairwise (· < ·)) : l' = l :=
  hp.eq_of_pairwise (fun a b _ _ h h' => by omega) hs (hl.imp (fun q => by omega))
theorem srt_ins {l l' : List Int} {x : Int} (hl : l.Pairwise (· < ·)) (hx : x ∉ l) (hp : l'.Perm (l ++ [x])) (hs : l'.Pairwise (· ≤ ·)) : l' = ins x l := by
  have h1 := ins_up hl hx
  refine up_uniq (hp.trans ((List.perm_ext_iff_of_nodup ?_ (up_nd h1)).2 (fun a => ?_))) hs h1
  · refine List.nodup_append.2 ⟨up_nd hl, by simp, fun a ha b hb e => ?_⟩
    rw [List.mem_singleton.1 hb] at e
    exact hx (e ▸ ha)
  · rw [ins_mem, List.mem_append, List.mem_singleton]
    exact Or.comm
structure Plc (l : List Int) (x : Int) (k : Nat) : Prop where
  lt : k < l.length
  at' : l[k]? = some x
  no : ∀ j, j < k → l[j]? ≠ some x
theorem Plc.idx {l : List Int} {x : Int} {k : Nat} (h : Plc l x k) : l.idxOf x = k := by
  induction l generalizing k with
  | nil => exact absurd h.lt (Nat.not_lt_zero _)
  | cons a l ih =>
    cases k with
    | zero =>
      have := h.at'
      simp at this
      subst this
      simp
    | succ k =>
      have h0 := h.no 0 (by omega)
      simp at h0
      rw [List.idxOf_cons]
      have e : (a == x) = false := by simpa using h0
      rw [e]
      have := ih (k := k) ⟨by have := h.lt; simp at this; exact this, by simpa using h.at', fun j hj => by simpa using h.no (j + 1) (by omega)⟩
      simp [this]
theorem Plc.mem {l : List Int} {x : Int} {k : Nat} (h : Plc l x k) : x ∈ l := List.mem_of_getElem? h.at'
theorem Plc.cut {l : List Int} {x : Int} {k : Nat} (h : Plc l x k) : l.take k ++ l.drop (k + 1) = l.erase x := by
  rw [List.erase_eq_eraseIdx_of_idxOf h.idx, List.eraseIdx_eq_take_drop_succ]
def put' {α : Type} (f : Nat → α) (i : Nat) (x : α) : Nat → α := fun k => if k = i then x else f k
theorem put'_same {α : Type} (f : Nat → α) (i : Nat) (x : α) : put' f i x i = x := if_pos rfl
theorem put'_other {α : Type} {f : Nat → α} {i k : Nat} {x : α} (h : k ≠ i) : put' f i x k = f k := if_neg h
theorem cn_nil (n : Nat) : cn (fun _ => none) n = 0 := by
  induction n with
  | zero => rfl
  | succ n ih => rw [cn, ih]; rfl
def ids (f : Rs) (n : Nat) : List Nat := (List.range n).filter (fun i => (f i).isSome)
theorem ids_mem {f : Rs} {n i : Nat} : i ∈ ids f n ↔ i < n ∧ ∃ r, f i = some r := by
  unfold ids
  rw [List.mem_filter, List.mem_range, Option.isSome_iff_exists]
theorem ids_nd (f : Rs) (n : Nat) : (ids f n).Nodup := List.nodup_range.sublist List.filter_sublist
theorem ids_len (f : Rs) : ∀ n, (ids f n).length = cn f n
  | 0 => rfl
  | n + 1 => by
    unfold ids
    rw [List.range_succ, List.filter_append, List.length_append, cn]
    have := ids_len f n
    unfold ids at this
    rw [this]
    congr 1
    by_cases h : (f n).isSome = true
    · rw [if_pos h]; simp [h]
    · rw [if_neg h]; simp [h]
structure Ob (f : Rs) (A : Nat → Nat) (H : List Int) : Prop where
  nd : H.Nodup
  on : ∀ x, x ∈ H ↔ ∃ i r, f i = some r ∧ x = (A i : Int)
  inj : ∀ i j r q, f i = some r → f j = some q → A i = A j → i = j
theorem Ob.nil (A : Nat → Nat) : Ob (fun _ => none) A [] := ⟨List.nodup_nil, fun x => ⟨fun h => by simp at h, fun h => by obtain ⟨i, r, h, _⟩ := h; cases h⟩, fun _ _ _ _ h => by cases h⟩
theorem Ob.len {f : Rs} {A : Nat → Nat} {H : List Int} {n : Nat} (h : Ob f A H) (far : ∀ i, n ≤ i → f i = none) : H.length = cn f n := by
  rw [← ids_len]
  have hp : H.Perm ((ids f n).map fun i => (A i : Int)) := by
    refine (List.perm_ext_iff_of_nodup h.nd ?_).2 (fun x => ?_)
    · unfold List.Nodup
      rw [List.pairwise_map]
      refine List.Pairwise.imp_of_mem (R := fun a b => a ≠ b) (fun {a b} ha hb hne e => ?_) (ids_nd f n)
      obtain ⟨_, r, hr⟩ := ids_mem.1 ha
      obtain ⟨_, q, hq⟩ := ids_mem.1 hb
      exact hne (h.inj a b r q hr hq (by omega))
    · rw [h.on x, List.mem_map]
      constructor
      · rintro ⟨i, r, hr, rfl⟩
        refine ⟨i, ids_mem.2 ⟨?_, r, hr⟩, rfl⟩
        rcases Nat.lt_or_ge i n with q | q
        · exact q
        · rw [far i q] at hr; cases hr
      · rintro ⟨i, hi, rfl⟩
        obtain ⟨_, r, hr⟩ := ids_mem.1 hi
        exact ⟨i, r, hr, rfl⟩
  rw [hp.length_eq, List.length_map]
theorem Ob.same {f : Rs} {A : Nat → Nat} {H : List Int} (h : Ob f A H) {k : Nat} {r q : Rc} (e : f k = some r) : Ob (put f k (some q)) A H := by
  have hs : ∀ i, (∃ x, put f k (some q) i = some x) ↔ ∃ x, f i = some x := fun i => by
    by_cases z : i = k
    · subst z; rw [put_same]; exact ⟨fun _ => ⟨r, e⟩, fun _ => ⟨q, rfl⟩⟩
    · rw [put_other z]
  refine ⟨h.nd, fun x => ?_, fun i j a b ha hb => ?_⟩
  · rw [h.on x]
    constructor
    · rintro ⟨i, a, ha, hx⟩
      obtain ⟨b, hb⟩ := (hs i).2 ⟨a, ha⟩
      exact ⟨i, b, hb, hx⟩
    · rintro ⟨i, a, ha, hx⟩
      obtain ⟨b, hb⟩ := (hs i).1 ⟨a, ha⟩
      exact ⟨i, b, hb, hx⟩
  · obtain ⟨a', ha'⟩ := (hs i).1 ⟨a, ha⟩
    obtain ⟨b', hb'⟩ := (hs j).1 ⟨b, hb⟩
    exact h.inj i j a' b' ha' hb'
theorem Ob.take {f : Rs} {A : Nat → Nat} {H H' : List Int} (h : Ob f A H) {k a : Nat} {r : Rc} (e : f k = none) (hn : H'.Nodup) (ha : (a : Int) ∉ H) (hm : ∀ x, x ∈ H' ↔ x = (a : Int) ∨ x ∈ H) : Ob (put f k (some r)) (put' A k a) H' := by
  refine ⟨hn, fun x => ?_, fun i j q s hi hj => ?_⟩
  · rw [hm x, h.on x]
    constructor
    · rintro (rfl | ⟨i, q, hq, rfl⟩)
      · exact ⟨k, r, put_same _ _ _, by rw [put'_same]⟩
      · have z : i ≠ k := fun z => by rw [z, e] at hq; cases hq
        exact ⟨i, q, by rw [put_other z]; exact hq, by rw [put'_other z]⟩
    · rintro ⟨i, q, hq, rfl⟩
      by_cases z : i = k
      · subst z; left; rw [put'_same]
      · rw [put_other z] at hq
        exact Or.inr ⟨i, q, hq, by rw [put'_other z]⟩
  · by_cases z : i = k <;> by_cases y : j = k
    · intro _; rw [z, y]
    · subst z
      rw [put_other y] at hj
      rw [put'_same, put'_other y]
      intro t
      exact absurd ((h.on _).2 ⟨j, s, hj, by rw [t]⟩) ha
    · subst y
      rw [put_other z] at hi
      rw [put'_same, put'_other z]
      intro t
      exact absurd ((h.on _).2 ⟨i, q, hi, by rw [← t]⟩) ha
    · rw [put_other z] at hi
      rw [put_other y] at hj
      rw [put'_other z, put'_other y]
      exact h.inj i j q s hi hj
theorem Ob.give {f : Rs} {A : Nat → Nat} {H H' : List Int} (h : Ob f A H) {k : Nat} {r : Rc} (e : f k = some r) (hn : H'.Nodup) (hm : ∀ x, x ∈ H' ↔ x ≠ (A k : Int) ∧ x ∈ H) : Ob (put f k none) A H' := by
  have hs : ∀ i q, put f k none i = some q → i ≠ k ∧ f i = some q := fun i q hq => by
    by_cases z : i = k
    · subst z; rw [put_same] at hq; cases hq
    · rw [put_other z] at hq; exact ⟨z, hq⟩
  refine ⟨hn, fun x => ?_, fun i j q s hi hj => h.inj i j q s (hs i q hi).2 (hs j s hj).2⟩
  rw [hm x, h.on x]
  constructor
  · rintro ⟨hx, i, q, hq, rfl⟩
    exact ⟨i, q, by rw [put_other (fun z => by rw [z] at hx; exact hx rfl)]; exact hq, rfl⟩
  · rintro ⟨i, q, hq, rfl⟩
    obtain ⟨z, hq⟩ := hs i q hq
    exact ⟨fun t => z (h.inj i k q r hq e (by omega)), i, q, hq, rfl⟩
theorem Ob.held {f : Rs} {A : Nat → Nat} {H : List Int} (h : Ob f A H) {k : Nat} {r : Rc} (e : f k = some r) : (A k : Int) ∈ H := (h.on _).2 ⟨k, r, e, rfl⟩
end Go.Proofs.YtkbpnkjjmipjfaaGreat.Az
