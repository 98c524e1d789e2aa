/- Gap of package vma: what it answers; no condition but those named. -/
import Derived.Test.YtmhfgfgiiinpjabWj
namespace Go.Proofs.Ytmhfgfgiiinpjab.V
open Go.ChangeShapes Go.WideShapes Go.ChangeAt Go.RowKit
set_option linter.unusedVariables false
set_option maxRecDepth 8192

/-- What Gap answers. -/
def Ga (w : World) (l : List Rg) (n f t : Int) (e : Ending) (w' : World) : Prop := ∃ p is e', e = .returned (.tuple #[.int .i64 p, .bool is, .int .i64 e']) ∧ GaS l n f t p is e' ∧ Below w.heap.size w w'
theorem gas_chk {l : List Rg} {n f t c : Int} (h : chk l = c) (hc : c ≠ 0) : GaS l n f t 0 false c := by subst h; unfold GaS; rw [if_pos hc]; exact ⟨rfl, rfl, rfl⟩
theorem gas_arg {l : List Rg} {n f t : Int} (h : chk l = 0) (hc : ¬ ((1 ≤ n ∧ n ≤ 1048576) ∧ (0 ≤ f ∧ f ≤ 1048576) ∧ f ≤ t ∧ t ≤ 1048576)) : GaS l n f t 0 false 2 := by unfold GaS; rw [if_neg (fun q => q h), if_pos hc]; exact ⟨rfl, rfl, rfl⟩
theorem gp_drop {l : List Rg} {n g : Int} {k : Nat} (hk : k < l.length) : gp n g (l.drop k) = if l[k].p - g ≥ n then g else gp n l[k].e (l.drop (k + 1)) := by rw [List.drop_eq_getElem_cons hk]; rfl
set_option maxHeartbeats 2000000 in
theorem Gap_ok {w : World} {ao : Option Addr} {cap : Nat} {l : List Rg} (h : Ri w ao cap l) (n f t : Int) :
    Calls Try.prog 10 #[.slice ao l.length cap, .int .i64 n, .int .i64 f, .int .i64 t] w (Ga w l n f t) := by
  have HC : Hid (Calls Try.prog 6 #[.slice ao l.length cap] w fun e w' => e = .returned (.int .i64 (chk l)) ∧ Below w.heap.size w w') := h.check
  have bad : ∀ c : Int, c = 2 ∨ c = 3 → chk l = c → Calls Try.prog 10 #[.slice ao l.length cap, .int .i64 n, .int .i64 f, .int .i64 t] w (Ga w l n f t) := fun c hc he => by
    have HG : Hid (GaS l n f t 0 false c) := gas_chk he (by omega)
    rw [he] at HC
    clear h he
    rcases hc with rfl | rfl
    all_goals
      go_enter Try.func10, Try.ntmps10
      go_wp2_with fail
      refine HC.out.mono ?_
      rintro e w1 ⟨rfl, b1⟩
      have HB1 : Hid (Below w.heap.size w w1) := b1
      clear b1
      go_wp2
      go_ret3
      exact ⟨0, false, _, rfl, HG.out, HB1.out⟩
  rcases chk_cases l with he | he | he
  case inr.inl => exact bad 2 (Or.inl rfl) he
  case inr.inr => exact bad 3 (Or.inr rfl) he
  clear bad
  have hM : May l := chk_may.1 he
  rw [he] at HC
  by_cases hok : (1 ≤ n ∧ n ≤ 1048576) ∧ (0 ≤ f ∧ f ≤ 1048576) ∧ f ≤ t ∧ t ≤ 1048576
  case neg =>
    have HG : Hid (GaS l n f t 0 false 2) := gas_arg he hok
    have hcs : (n < 1) ∨ (1 ≤ n ∧ 1048576 < n) ∨ (1 ≤ n ∧ n ≤ 1048576 ∧ f < 0) ∨ (1 ≤ n ∧ n ≤ 1048576 ∧ 0 ≤ f ∧ t < f) ∨ (1 ≤ n ∧ n ≤ 1048576 ∧ 0 ≤ f ∧ f ≤ t ∧ 1048576 < t) := by omega
    clear h he hM hok
    rcases hcs with x1 | ⟨x1, x2⟩ | ⟨x1, x2, x3⟩ | ⟨x1, x2, x3, x4⟩ | ⟨x1, x2, x3, x4, x5⟩
    all_goals
      go_enter Try.func10, Try.ntmps10
      go_wp2_with fail
      refine HC.out.mono ?_
      rintro e w1 ⟨rfl, b1⟩
      have HB1 : Hid (Below w.heap.size w w1) := b1
      clear b1
      go_wp2
      go_ret3
      exact ⟨0, false, _, rfl, HG.out, HB1.out⟩
  case pos =>
    obtain ⟨⟨n1, n2⟩, ⟨f1, f2⟩, ft, t2⟩ := hok
    have HG := gp_gas hM ⟨n1, n2⟩ ⟨f1, f2⟩ ft t2
    have HGy : Hid (n ≤ t - gp n f (btw l f 1048576) → GaS l n f t (gp n f (btw l f 1048576)) true 0) := HG.1
    have HGn : Hid (t - gp n f (btw l f 1048576) < n → GaS l n f t 0 false 0) := HG.2
    have HSp : Hid (∀ W, Below w.heap.size w W → Calls Try.prog 23 #[.slice ao l.length cap, .int .i64 f] W fun e w' => ∃ a1 c1 a2 c2, e = .returned (.tuple #[.slice a1 (btw l 0 f).length c1, .slice a2 (btw l f 1048576).length c2]) ∧ Rn w' a1 (btw l 0 f) ∧ Rn w' a2 (btw l f 1048576) ∧ (btw l 0 f).length ≤ c1 ∧ (btw l f 1048576).length ≤ c2 ∧ Below W.heap.size W w') := fun W hW => split_ok (h.rn.below hW) hM.2.rs h.le ⟨f1, f2⟩
    have HS : Hid (Rs (btw l f 1048576)) := btw_rs hM.2.rs
    have hlb : (btw l f 1048576).length ≤ 1024 := Nat.le_trans (btw_le l f 1048576) hM.1
    clear HG h hM he
    generalize btw l f 1048576 = be at *
    generalize btw l 0 f = ah at *
    obtain ⟨G, hG⟩ : ∃ G, gp n f be = G := ⟨_, rfl⟩
    rw [hG] at HGy HGn
    have HG0 : Hid (gp n f be = G) := hG
    clear hG
    go_enter Try.func10, Try.ntmps10
    go_wp2_with fail
    refine HC.out.mono ?_
    rintro e w1 ⟨rfl, b1⟩
    have HB1 : Hid (Below w.heap.size w w1) := b1
    clear b1
    go_wp2_with fail
    refine (HSp.out w1 HB1.out).mono ?_
    rintro e w2 ⟨a1, c1, a2, c2, rfl, r1, r2, l1, l2, b2⟩
    have HB2 : Hid (Below w.heap.size w w2) := bs HB1.out b2
    have HR : Hid (Rn w2 a2 be) := r2
    clear r1 r2 b2
    go_wp2_with fail
    go_loopw [14, 50] (fun g i wr => ∃ (k : Nat) (g' : Int), k ≤ be.length ∧ i = .int .i64 k ∧ g = .int .i64 g' ∧ 0 ≤ g' ∧ g' ≤ 1048576 ∧ Hid (gp n g' (be.drop k) = G) ∧ Below w2.heap.size w2 wr) (fun _ i _ => be.length - (iv i).toNat)
    case atStart => exact ⟨0, f, by omega, rfl, rfl, f1, f2, HG0.out, Below.refl _ _⟩
    case round =>
      obtain ⟨k, g, hk, rfl, rfl, g0, g1, HGk, hb⟩ := hrel
      have HB : Hid (Below w.heap.size w wr) := bs HB2.out hb
      by_cases hlt : k < be.length
      case' neg =>
        obtain rfl : k = be.length := by omega
        have qG : g = G := by have := HGk.out; rw [List.drop_length] at this; exact this
      case' pos =>
        obtain ⟨b, off, rfl, hbl, hc⟩ := HR.out.idx hlt
        obtain ⟨q0, q1, q2⟩ := hc wr hb
        have HGd : Hid (gp n g (be.drop k) = if be[k].p - g ≥ n then g else gp n be[k].e (be.drop (k + 1))) := gp_drop hlt
        have ho := (HS.out.ok be[k] (List.getElem_mem hlt)).lt
        have hee : be[k].e = be[k].p + be[k].n := rfl
        rw [hee] at HGd ho
        generalize be[k] = r at *
        obtain ⟨p, m, pm⟩ := r
        simp only at q0 q1 q2 ho HGd
        have HE : Hid (∀ W : World, Calls Try.prog 15 #[.agg #[.int .i64 p, .int .i64 m, .int .u8 pm]] W fun e w' => e = .returned (.int .i64 (p + m)) ∧ Below W.heap.size W w') := fun W => end_any p m pm (by omega) W
        obtain ⟨ho1, ho2, ho3⟩ := ho
        have ix1 : (0 : Int) ≤ (k : Int) := Int.natCast_nonneg k
        have ix2 : (k : Int) < (be.length : Int) := Int.ofNat_lt.2 hlt
        clear hc hee
        by_cases hbr : n ≤ p - g
        case' pos => have qG : g = G := by rw [← HGk.out, HGd.out, if_pos hbr]
        case neg =>
          have q2 : gp n (p + m) (be.drop (k + 1)) = G := by rw [← HGk.out, HGd.out, if_neg hbr]
          have HGn2 : Hid (gp n (p + m) (be.drop (k + 1)) = G) := q2
          have hd : decide (n ≤ p - g) = false := decide_eq_false hbr
          have HBo : Hid (∀ o : Obj, Below w2.heap.size w2 (wr.alloc o)) := fun o => hb.alloc hb.size o
          clear q2 hb HGd
          go_wp2_with fail
          refine (HE.out _).mono ?_
          rintro e w3 ⟨rfl, b3⟩
          have HB3 : Hid (Below w2.heap.size w2 w3) := (HBo.out _).trans (b3.mono (HBo.out _).size)
          clear b3
          go_wp2
          go_roundw
          case rel => exact ⟨k + 1, p + m, by omega, by go_num, rfl, by omega, by omega, HGn2.out, HB3.out⟩
          case measure => simp [iv]; omega
      all_goals
        subst qG
        have HB9 : Hid (∀ o : Obj, Below w.heap.size w (wr.alloc o)) := fun o => HB.out.alloc HB.out.size o
        by_cases hq : t - g < n
        · have HF : Hid (GaS l n f t 0 false 0) := HGn.out hq
          go_wp2
          go_ret3
          exact ⟨0, false, 0, rfl, HF.out, by first | exact HB.out | exact HB9.out _⟩
        · have HF : Hid (GaS l n f t g true 0) := HGy.out (Int.not_lt.1 hq)
          have hd2 : decide (t - g < n) = false := decide_eq_false hq
          go_wp2
          go_ret3
          exact ⟨g, true, 0, rfl, HF.out, by first | exact HB.out | exact HB9.out _⟩
end Go.Proofs.Ytmhfgfgiiinpjab.V
