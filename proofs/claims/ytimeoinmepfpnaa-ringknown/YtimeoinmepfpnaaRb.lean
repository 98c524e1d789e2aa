/- Layer 19, plain mathematics: rows of numbers one behind the other, bits that are cleared when they are asked, a second chance; no condition but those named. -/
import Derived.Test.YtimeoinmepfpnaaRa
namespace Go.Proofs.Ytimeoinmepfpnaa.Ri
set_option linter.unusedVariables false

/-- All of a row are passed over; the state behind that. -/
def pas {σ : Type} (u : σ → Int → Bool × σ) (pin : Int) : List Int → σ → Prop
  | [], _ => True
  | x :: A, s => if x = pin then pas u pin A s else (u s x).1 = true ∧ pas u pin A (u s x).2
def fin {σ : Type} (u : σ → Int → Bool × σ) (pin : Int) : List Int → σ → σ
  | [], s => s
  | x :: A, s => if x = pin then fin u pin A s else fin u pin A (u s x).2
theorem nx_pas {σ : Type} {u : σ → Int → Bool × σ} {pin : Int} {m : Nat} : ∀ {A B : List Int} {s : σ} {k : Nat}, pas u pin A s → nx u pin (m + A.length) (A ++ B) s k = nx u pin m (B ++ A) (fin u pin A s) (k + A.length)
  | [], B, s, k, _ => by simp [fin]
  | x :: A, B, s, k, h => by
    have e : m + (x :: A).length = (m + A.length) + 1 := by simp; omega
    rw [e, List.cons_append]
    by_cases hp : x = pin
    · subst hp
      rw [pas, if_pos rfl] at h
      rw [nx_pin, List.append_assoc, nx_pas h, fin, if_pos rfl]
      simp only [List.append_assoc, List.singleton_append, List.length_cons]
      congr 1
      omega
    · rw [pas, if_neg hp] at h
      rw [nx_pass hp h.1, List.append_assoc, nx_pas h.2, fin, if_neg hp]
      simp only [List.append_assoc, List.singleton_append, List.length_cons]
      congr 1
      omega
/-- Numbers one behind the other, from a on, so many. -/
def sg (a : Nat) : Nat → List Int
  | 0 => []
  | n + 1 => (a : Int) :: sg (a + 1) n
theorem sg_len : ∀ (n a : Nat), (sg a n).length = n
  | 0, _ => rfl
  | n + 1, a => by rw [sg, List.length_cons, sg_len n]
theorem sg_get : ∀ (n a i : Nat), i < n → (sg a n)[i]? = some ((a + i : Nat) : Int)
  | n + 1, a, 0, _ => rfl
  | n + 1, a, i + 1, h => by
    rw [sg, List.getElem?_cons_succ, sg_get n (a + 1) i (by omega)]
    congr 2
    omega
theorem sg_mem : ∀ {n a : Nat} {x : Int}, x ∈ sg a n ↔ (a : Int) ≤ x ∧ x < ((a + n : Nat) : Int)
  | 0, a, x => by
    simp only [sg, List.not_mem_nil, false_iff]
    omega
  | n + 1, a, x => by
    rw [sg, List.mem_cons, sg_mem]
    omega
theorem sg_snoc : ∀ (n a : Nat), sg a (n + 1) = sg a n ++ [((a + n : Nat) : Int)]
  | 0, a => rfl
  | n + 1, a => by
    rw [sg, sg_snoc n (a + 1), sg, List.cons_append]
    congr 3
    omega
theorem sg_app : ∀ (n a m : Nat), sg a (n + m) = sg a n ++ sg (a + n) m
  | 0, a, m => by simp [sg]
  | n + 1, a, m => by
    rw [show n + 1 + m = (n + m) + 1 by omega, sg, sg_app n (a + 1) m, sg, List.cons_append, show a + 1 + n = a + (n + 1) by omega]
theorem sg_nd : ∀ (n a : Nat), (sg a n).Nodup
  | 0, _ => List.nodup_nil
  | n + 1, a => by
    rw [sg, List.nodup_cons]
    refine ⟨fun h => ?_, sg_nd n (a + 1)⟩
    have := sg_mem.1 h
    omega
theorem sg_ok {n : Nat} (h : n ≤ 4096) : Ok (sg 0 n) := ⟨fun x hx => by have := sg_mem.1 hx; omega, fun x hx => by have := sg_mem.1 hx; omega, sg_nd n 0, by rw [sg_len]; exact h⟩
theorem sg_add {n : Nat} (h : n < 4096) : AdS (sg 0 n) (n : Int) (sg 0 (n + 1)) 0 := Or.inr (Or.inr (Or.inr ⟨by omega, fun q => by have := sg_mem.1 q; omega, by rw [sg_len]; exact h, by rw [sg_snoc, Nat.zero_add], rfl⟩))
/-- Bits that are cleared when they are asked. -/
def bu (f : Nat → Bool) (x : Int) : Bool × (Nat → Bool) := (f ((x % 64).toNat), fun i => if i = (x % 64).toNat then false else f i)
theorem bu_at {f : Nat → Bool} {a : Nat} (h : a < 64) : bu f (a : Int) = (f a, fun i => if i = a then false else f i) := by
  have : (((a : Int)) % 64).toNat = a := by omega
  unfold bu
  rw [this]
/-- The bits from a on, so many, cleared, but for the pinned one's. -/
def clr (pin : Int) (f : Nat → Bool) (a n : Nat) : Nat → Bool := fun i => if a ≤ i ∧ i < a + n ∧ (i : Int) ≠ pin then false else f i
theorem pas_sg {pin : Int} : ∀ {n a : Nat} {f : Nat → Bool}, a + n ≤ 64 → (∀ i, a ≤ i → i < a + n → (i : Int) ≠ pin → f i = true) → pas bu pin (sg a n) f ∧ fin bu pin (sg a n) f = clr pin f a n
  | 0, a, f, _, _ => ⟨trivial, funext fun i => by unfold clr; rw [if_neg (by omega)]; rfl⟩
  | n + 1, a, f, hl, h => by
    by_cases hp : (a : Int) = pin
    · obtain ⟨h1, h2⟩ := pas_sg (pin := pin) (n := n) (a := a + 1) (f := f) (by omega) (fun i h1 h2 h3 => h i (by omega) (by omega) h3)
      refine ⟨?_, ?_⟩
      · rw [sg, pas, if_pos hp]; exact h1
      · rw [sg, fin, if_pos hp, h2]
        funext i
        unfold clr
        by_cases q : i = a
        · subst q
          rw [if_neg (by omega), if_neg (fun z => z.2.2 hp)]
        · by_cases z : a + 1 ≤ i ∧ i < a + 1 + n ∧ (i : Int) ≠ pin
          · rw [if_pos z, if_pos ⟨by omega, by omega, z.2.2⟩]
          · rw [if_neg z, if_neg (fun y => z ⟨by omega, by omega, y.2.2⟩)]
    · have hfa := h a (Nat.le_refl _) (by omega) hp
      have hb := bu_at (f := f) (a := a) (by omega)
      obtain ⟨h1, h2⟩ := pas_sg (pin := pin) (n := n) (a := a + 1) (f := fun i => if i = a then false else f i) (by omega) (fun i h1 h2 h3 => by
        rw [if_neg (by omega)]
        exact h i (by omega) (by omega) h3)
      refine ⟨?_, ?_⟩
      · rw [sg, pas, if_neg hp, hb]
        exact ⟨hfa, h1⟩
      · rw [sg, fin, if_neg hp, hb]
        show fin bu pin (sg (a + 1) n) _ = _
        rw [h2]
        funext i
        unfold clr
        by_cases q : i = a
        · subst q
          rw [if_neg (by omega), if_pos ⟨by omega, by omega, hp⟩]
          exact if_pos rfl
        · have hq : (fun i => if i = a then false else f i) i = f i := if_neg q
          rw [hq]
          by_cases z : a + 1 ≤ i ∧ i < a + 1 + n ∧ (i : Int) ≠ pin
          · rw [if_pos z, if_pos ⟨by omega, by omega, z.2.2⟩]
          · rw [if_neg z, if_neg (fun y => z ⟨by omega, by omega, y.2.2⟩)]
/-- The first bit that is not set, of a number that is not pinned: it is told in the first round. -/
theorem second_want {pin : Int} {n w : Nat} {f : Nat → Bool} (hn : n ≤ 60) (hw : w < n) (hp : (w : Int) ≠ pin) (hf : f w = false) (hlo : ∀ i, i < w → (i : Int) ≠ pin → f i = true) :
    ∃ f', nxt bu pin (sg 0 n) f = (some (w : Int), w + 1, rt (sg 0 n) (w + 1), f') ∧ ∀ i, i < w → (i : Int) ≠ pin → f' i = false := by
  obtain ⟨h1, h2⟩ := pas_sg (pin := pin) (n := w) (a := 0) (f := f) (by omega) (fun i _ h3 h4 => hlo i (by omega) h4)
  have e : sg 0 n = sg 0 w ++ ((w : Int) :: sg (w + 1) (n - w - 1)) := by
    have := sg_app w 0 (n - w)
    rw [show w + (n - w) = n by omega, show n - w = (n - w - 1) + 1 by omega, Nat.zero_add] at this
    rw [this]
    rfl
  have hx : nxt bu pin (sg 0 n) f = nx bu pin ((2 * n - w) + 1) ((w : Int) :: (sg (w + 1) (n - w - 1) ++ sg 0 w)) (clr pin f 0 w) w := by
    unfold nxt
    rw [sg_len]
    have := nx_pas (m := (2 * n - w) + 1) (B := (w : Int) :: sg (w + 1) (n - w - 1)) (k := 0) h1
    rw [sg_len, h2, ← e, Nat.zero_add, show (2 * n - w) + 1 + w = 2 * n + 1 by omega] at this
    exact this
  have hb := bu_at (f := clr pin f 0 w) (a := w) (by omega)
  have hu : (bu (clr pin f 0 w) (w : Int)).1 = false := by
    rw [hb]
    show clr pin f 0 w w = false
    unfold clr
    rw [if_neg (by omega)]
    exact hf
  obtain ⟨j, _, g2, g3, _⟩ := nx_rt bu pin (2 * n + 1) (sg 0 n) f 0
  have hy : nx bu pin (2 * n + 1) (sg 0 n) f 0 = nxt bu pin (sg 0 n) f := by unfold nxt; rw [sg_len]
  rw [hy, hx, nx_ans hp hu] at g2 g3
  have hj : j = w + 1 := by
    have : w + 1 = 0 + j := g2
    omega
  rw [hx, nx_ans hp hu, hb]
  have g4 : (sg (w + 1) (n - w - 1) ++ sg 0 w) ++ [(w : Int)] = rt (sg 0 n) (w + 1) := by rw [hj] at g3; exact g3
  refine ⟨(fun i => if i = w then false else clr pin f 0 w i), ?_, fun i hi hip => ?_⟩
  · rw [g4]
  · show (if i = w then false else clr pin f 0 w i) = false
    rw [if_neg (by omega)]
    unfold clr
    rw [if_pos ⟨by omega, by omega, hip⟩]
/-- All bits are set: the first number that is not pinned is told, in the second round. -/
theorem second_first {pin : Int} {n p : Nat} {f : Nat → Bool} (hn : n ≤ 60) (hw : p < n) (hp : (p : Int) ≠ pin) (hlo : ∀ i, i < p → (i : Int) = pin) (hall : ∀ i, i < n → (i : Int) ≠ pin → f i = true) :
    ∃ f', nxt bu pin (sg 0 n) f = (some (p : Int), n + p + 1, rt (sg 0 n) (n + p + 1), f') ∧ ∀ i, i < n → (i : Int) ≠ pin → f' i = false := by
  obtain ⟨h1, h2⟩ := pas_sg (pin := pin) (n := n) (a := 0) (f := f) (by omega) (fun i _ h3 h4 => hall i (by omega) h4)
  obtain ⟨k1, k2⟩ := pas_sg (pin := pin) (n := p) (a := 0) (f := clr pin f 0 n) (by omega) (fun i _ h3 h4 => absurd (hlo i (by omega)) h4)
  have hc : clr pin (clr pin f 0 n) 0 p = clr pin f 0 n := by
    funext i
    unfold clr
    by_cases q : 0 ≤ i ∧ i < 0 + p ∧ (i : Int) ≠ pin
    · exact absurd (hlo i (by omega)) q.2.2
    · rw [if_neg q]
  rw [hc] at k2
  have e : sg 0 n = sg 0 p ++ ((p : Int) :: sg (p + 1) (n - p - 1)) := by
    have := sg_app p 0 (n - p)
    rw [show p + (n - p) = n by omega, show n - p = (n - p - 1) + 1 by omega, Nat.zero_add] at this
    rw [this]
    rfl
  have hx : nxt bu pin (sg 0 n) f = nx bu pin ((n - p) + 1) ((p : Int) :: (sg (p + 1) (n - p - 1) ++ sg 0 p)) (clr pin f 0 n) (n + p) := by
    unfold nxt
    rw [sg_len]
    have a := nx_pas (m := n + 1) (B := []) (k := 0) h1
    rw [sg_len, h2, List.append_nil, Nat.zero_add, List.nil_append, show n + 1 + n = 2 * n + 1 by omega] at a
    rw [a]
    have b := nx_pas (m := (n - p) + 1) (B := (p : Int) :: sg (p + 1) (n - p - 1)) (k := n) k1
    rw [sg_len, k2, ← e, show (n - p) + 1 + p = n + 1 by omega] at b
    exact b
  have hb := bu_at (f := clr pin f 0 n) (a := p) (by omega)
  have hu : (bu (clr pin f 0 n) (p : Int)).1 = false := by
    rw [hb]
    show clr pin f 0 n p = false
    unfold clr
    rw [if_pos ⟨by omega, by omega, hp⟩]
  obtain ⟨j, _, g2, g3, _⟩ := nx_rt bu pin (2 * n + 1) (sg 0 n) f 0
  have hy : nx bu pin (2 * n + 1) (sg 0 n) f 0 = nxt bu pin (sg 0 n) f := by unfold nxt; rw [sg_len]
  rw [hy, hx, nx_ans hp hu] at g2 g3
  have hj : j = n + p + 1 := by
    have : n + p + 1 = 0 + j := g2
    omega
  rw [hx, nx_ans hp hu, hb]
  have g4 : (sg (p + 1) (n - p - 1) ++ sg 0 p) ++ [(p : Int)] = rt (sg 0 n) (n + p + 1) := by rw [hj] at g3; exact g3
  refine ⟨(fun i => if i = p then false else clr pin f 0 n i), ?_, fun i hi hip => ?_⟩
  · rw [g4]
  · show (if i = p then false else clr pin f 0 n i) = false
    by_cases q : i = p
    · rw [if_pos q]
    · rw [if_neg q]
      unfold clr
      rw [if_pos ⟨by omega, by omega, hip⟩]
/-- A ring of the pinned one alone. -/
theorem second_none {pin : Int} {σ : Type} (u : σ → Int → Bool × σ) (s : σ) : nxt u pin [pin] s = (none, 3, [pin], s) := by
  show nx u pin (2 + 1) [pin] s 0 = _
  rw [nx_pin]
  show nx u pin (1 + 1) [pin] s 1 = _
  rw [nx_pin]
  show nx u pin (0 + 1) [pin] s 2 = _
  rw [nx_pin]
  rfl
end Go.Proofs.Ytimeoinmepfpnaa.Ri
