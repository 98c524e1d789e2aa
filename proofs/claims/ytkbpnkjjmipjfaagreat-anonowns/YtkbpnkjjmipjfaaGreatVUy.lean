/- The sort of unsigned words: the row comes out sorted; no condition but those that each theorem names. -/
import Derived.Test.YtkbpnkjjmipjfaaGreatVUw
import Derived.Test.YtkbpnkjjmipjfaaGreatVUx
import Derived.Test.YtkbpnkjjmipjfaaGreatVUf
import Derived.Test.YtkbpnkjjmipjfaaGreatVUv
import Derived.Laws.AppendOwn
namespace Go.Proofs.YtkbpnkjjmipjfaaGreat.U
open Go.ChangeShapes Go.WideShapes Go.ChangeAt Go.RowKit
open Go.Sort (swp ltInt PermIn SortedIn)
set_option linter.unusedVariables false
set_option maxRecDepth 8192

def Todo (a b : Nat) (d : Array Int) (a' b' : Nat) (x : Array Int) : Prop := ∀ R, PermIn a' b' x R → SortedIn ltInt a' b' R → PermIn a b d R ∧ SortedIn ltInt a b R
theorem Todo.perm {a b : Nat} {d : Array Int} {a' b' : Nat} {x y : Array Int} (h : Todo a b d a' b' x) (p : PermIn a' b' x y) : Todo a b d a' b' y := fun R h1 h2 => h R (Go.Sort.permIn_trans _ _ _ _ _ p h1) h2
set_option maxHeartbeats 4000000 in
theorem pdq_round {w0 w : World} {g off m cap n a b lim : Nat} {d : Array Int} (hO : Ou w0 w g off m d) (hab : a ≤ b) (hb : b ≤ n) (hn : d.size = n) (hsz : n < 1000000) (hlim : lim ≤ 64) (hB : Go.Sort.Below ltInt a b d)
    (IH : ∀ (W : World) (x : Array Int) (a' b' l' : Nat), b' - a' < b - a → a' ≤ b' → b' ≤ n → l' ≤ 64 → x.size = n → Go.Sort.Below ltInt a' b' x → Ou w0 W g off m x →
      Calls Tryz.prog 161 #[.slice (some ⟨g, off, none⟩) n cap, .int .i64 a', .int .i64 b', .int .i64 l'] W fun e w' => ∃ R, e = .returned (.tuple #[]) ∧ PermIn a' b' x R ∧ SortedIn ltInt a' b' R ∧ Ou w0 w' g off m R) :
    Calls Tryz.prog 161 #[.slice (some ⟨g, off, none⟩) n cap, .int .i64 a, .int .i64 b, .int .i64 lim] w fun e w' => ∃ R, e = .returned (.tuple #[]) ∧ PermIn a b d R ∧ SortedIn ltInt a b R ∧ Ou w0 w' g off m R := by
  have HIH : Hid (∀ (W : World) (x : Array Int) (a' b' l' : Nat), b' - a' < b - a → a' ≤ b' → b' ≤ n → l' ≤ 64 → x.size = n → Go.Sort.Below ltInt a' b' x → Ou w0 W g off m x →
      Calls Tryz.prog 161 #[.slice (some ⟨g, off, none⟩) n cap, .int .i64 a', .int .i64 b', .int .i64 l'] W fun e w' => ∃ R, e = .returned (.tuple #[]) ∧ PermIn a' b' x R ∧ SortedIn ltInt a' b' R ∧ Ou w0 w' g off m R) := IH
  have HO : Hid (Ou w0 w g off m d) := hO
  have HB : Hid (Go.Sort.Below ltInt a b d) := hB
  have HN : Hid (d.size = n) := hn
  clear hO hB hn IH
  go_enter Tryz.func161, Tryz.ntmps161
  go_wp2
  go_loopw [1, 2, 3, 8, 9] (fun za zb zl z8 z9 wr => ∃ (a' b' l' : Nat) (wb wp : Bool) (x : Array Int), za = .int .i64 a' ∧ zb = .int .i64 b' ∧ zl = .int .i64 l' ∧ z8 = .bool wb ∧ z9 = .bool wp ∧ b' - a' ≤ b - a ∧ a' ≤ b' ∧ b' ≤ n ∧ l' ≤ 64 ∧ x.size = n ∧ Go.Sort.Below ltInt a' b' x ∧ Ou w0 wr g off m x ∧ Todo a b d a' b' x) (fun za zb _ _ _ _ => (iv zb).toNat - (iv za).toNat)
  case atStart => exact ⟨a, b, lim, true, true, d, rfl, rfl, rfl, rfl, rfl, Nat.le_refl _, hab, hb, hlim, HN.out, HB.out, HO.out, fun R h1 h2 => ⟨h1, h2⟩⟩
  case round =>
    clear HO HB HN hab hb hlim
    obtain ⟨p, q, l, wb, wp, x, rfl, rfl, rfl, rfl, rfl, h0, h1, h2, h3, h4, h5, h6, h7⟩ := hrel
    have H4 : Hid (x.size = n) := h4
    have H5 : Hid (Go.Sort.Below ltInt p q x) := h5
    have H6 : Hid (Ou w0 wr g off m x) := h6
    have H7 : Hid (Todo a b d p q x) := h7
    clear h4 h5 h6 h7
    have FIN : Hid (∀ (W : World) (y R : Array Int), Todo a b d p q y → PermIn p q y R → SortedIn ltInt p q R → Ou w0 W g off m R → ∃ R, PermIn a b d R ∧ SortedIn ltInt a b R ∧ Ou w0 W g off m R) := fun W y R z1 z2 z3 z4 => ⟨R, (z1 R z2 z3).1, (z1 R z2 z3).2, z4⟩
    by_cases hlen : q - p ≤ 12
    · have hlI : (q : Int) - (p : Int) ≤ 12 := by omega
      have CI : Hid (Calls Tryz.prog 198 #[.slice (some ⟨g, off, none⟩) n cap, .int .i64 p, .int .i64 q] wr fun e w' => e = .returned (.tuple #[]) ∧ ∃ R, PermIn a b d R ∧ SortedIn ltInt a b R ∧ Ou w0 w' g off m R) := by
        have := insertion_any (cap := cap) H6.out h1 (by rw [H4.out]; exact h2) (by rw [H4.out]; exact hsz)
        rw [H4.out] at this
        refine this.mono ?_
        rintro e w' ⟨rfl, z⟩
        obtain ⟨z1, z2⟩ := Go.Sort.insertionSort_holds Go.Sort.swo_ltInt x p q h1 (by rw [H4.out]; exact h2)
        exact ⟨rfl, FIN.out w' x _ H7.out z1 z2 z⟩
      clear HIH FIN
      go_wp2_with fail
      refine CI.out.mono ?_
      rintro e w2 ⟨rfl, hz⟩
      have HZ : Hid (∃ R, PermIn a b d R ∧ SortedIn ltInt a b R ∧ Ou w0 w2 g off m R) := hz
      clear hz CI
      go_wp2
      first | go_end0 | refine bodyPost_ret (results_none rfl _ _ _) rfl ?_
      obtain ⟨R, z1, z2, z3⟩ := HZ.out
      exact ⟨R, rfl, z1, z2, z3⟩
    by_cases hl0 : l = 0
    · have hlI : ¬ (q : Int) - (p : Int) ≤ 12 := by omega
      have CI : Hid (Calls Tryz.prog 199 #[.slice (some ⟨g, off, none⟩) n cap, .int .i64 p, .int .i64 q] wr fun e w' => e = .returned (.tuple #[]) ∧ ∃ R, PermIn a b d R ∧ SortedIn ltInt a b R ∧ Ou w0 w' g off m R) := by
        have := heap_any (cap := cap) H6.out (a := p) (b := q) (by omega) (by rw [H4.out]; exact h2) (by rw [H4.out]; exact hsz)
        rw [H4.out] at this
        refine this.mono ?_
        rintro e w' ⟨rfl, z⟩
        obtain ⟨z1, z2⟩ := Go.Sort.heapSort_holds Go.Sort.swo_ltInt x p q h1 (by rw [H4.out]; exact h2)
        exact ⟨rfl, FIN.out w' x _ H7.out z1 z2 z⟩
      subst hl0
      clear HIH FIN
      go_wp2_with fail
      refine CI.out.mono ?_
      rintro e w2 ⟨rfl, hz⟩
      have HZ : Hid (∃ R, PermIn a b d R ∧ SortedIn ltInt a b R ∧ Ou w0 w2 g off m R) := hz
      clear hz CI
      go_wp2
      first | go_end0 | refine bodyPost_ret (results_none rfl _ _ _) rfl ?_
      obtain ⟨R, z1, z2, z3⟩ := HZ.out
      exact ⟨R, rfl, z1, z2, z3⟩
    have hpq : p + 12 < q := by omega
    obtain ⟨len, hlen2⟩ : ∃ len : Nat, q - p = len := ⟨_, rfl⟩
    have hlenI : (q : Int) - (p : Int) = (len : Int) := by omega
    have hlen12 : ¬ (len : Int) ≤ 12 := by omega
    have hlen13 : ¬ len ≤ 12 := by omega
    have hl0I : ¬ (l : Int) = 0 := by omega
    have hl0B : ((l : Int) == 0) = false := by simp; omega
    refine wp_block (wp_seq_k ?_)
    intro K hk
    go_cut [10] from 19 to 133 (fun z wc => z = .int .i64 len ∧ Ou w0 wc g off m x)
    case first =>
      clear hk
      go_wp2
      go_meet
      case rel => exact ⟨rfl, H6.out⟩
    case rest =>
    clear H6
    obtain ⟨rfl, h6⟩ := hcut
    have H6 : Hid (Ou w0 wc g off m x) := h6
    clear h6
    refine hk _ _ (wp_seq_k ?_)
    clear hk K
    intro K hk
    go_cut [10] from 19 to 133 (fun z wc => z = .int .i64 len ∧ Ou w0 wc g off m x)
    case first =>
      clear hk
      go_wp2
      go_meet
      case rel => exact ⟨rfl, H6.out⟩
    case rest =>
    clear H6
    obtain ⟨rfl, h6⟩ := hcut
    have H6 : Hid (Ou w0 wc g off m x) := h6
    clear h6
    refine hk _ _ (wp_seq_k ?_)
    clear hk K
    intro K hk
    go_cut [10] from 19 to 133 (fun z wc => z = .int .i64 len ∧ Ou w0 wc g off m x)
    case first =>
      clear hk
      go_wp2
      go_meet
      case rel => exact ⟨rfl, H6.out⟩
    case rest =>
    clear H6
    obtain ⟨rfl, h6⟩ := hcut
    have H6 : Hid (Ou w0 wc g off m x) := h6
    clear h6
    have hl1 : 1 ≤ l := by omega
    clear hl0I hl0B hlenI hlen12 hlen13 hlen hl0
    refine hk _ _ (wp_seq_k ?_)
    clear hk K
    intro K hk
    go_cut [3] from 19 to 133 (fun z wc => ∃ (l2 : Nat) (y : Array Int), z = .int .i64 l2 ∧ l2 ≤ 64 ∧ y.size = n ∧ PermIn p q x y ∧ Ou w0 wc g off m y)
    case first =>
      clear hk
      cases wb with
      | true =>
        go_wp2
        go_meet
        case rel => exact ⟨l, x, rfl, h3, H4.out, Go.Sort.permIn_refl _ _ _, H6.out⟩
      | false =>
        have CB : Hid (Calls Tryz.prog 200 #[.slice (some ⟨g, off, none⟩) n cap, .int .i64 p, .int .i64 q] wc fun e w' => ∃ y, e = .returned (.tuple #[]) ∧ PermIn p q x y ∧ Ou w0 w' g off m y) := by
          have := break_any (cap := cap) H6.out hpq (by rw [H4.out]; exact h2) (by rw [H4.out]; exact hsz)
          rw [H4.out] at this
          exact this
        go_wp2_with fail
        refine CB.out.mono ?_
        rintro e w2 ⟨y, rfl, z1, z2⟩
        have Z1 : Hid (PermIn p q x y) := z1
        have Z2 : Hid (Ou w0 w2 g off m y) := z2
        clear z1 z2 CB
        go_wp2
        go_meet
        case rel => exact ⟨l - 1, y, by go_num, by omega, Z1.out.1.trans H4.out, Z1.out, Z2.out⟩
    case rest =>
    obtain ⟨l2, y, rfl, hl2, z1, z2, z3⟩ := hcut
    have S : Hid (y.size = n) := z1
    have B5 : Hid (Go.Sort.Below ltInt p q y) := H5.out.perm (by rw [H4.out]; exact h2) z2
    have T7 : Hid (Todo a b d p q y) := H7.out.perm z2
    have O6 : Hid (Ou w0 wc g off m y) := z3
    clear z1 z2 z3 H4 H5 H6 H7 x h3
    refine hk _ _ (wp_seq_k ?_)
    clear hk K
    intro K hk
    go_cut [11, 12] from 19 to 133 (fun z z' wc => ∃ (pv h : Nat), z = .int .i64 pv ∧ z' = .int .i64 h ∧ p ≤ pv ∧ pv < q ∧ h ≤ 2 ∧ Ou w0 wc g off m y)
    case first =>
      clear hk
      have CP : Hid (Calls Tryz.prog 201 #[.slice (some ⟨g, off, none⟩) n cap, .int .i64 p, .int .i64 q] wc fun e w' => ∃ pv h : Nat, e = .returned (.tuple #[.int .i64 pv, .int .i64 h]) ∧ p ≤ pv ∧ pv < q ∧ h ≤ 2 ∧ Ou w0 w' g off m y) := by
        have := pivot_any (cap := cap) O6.out hpq (by rw [S.out]; exact h2) (by rw [S.out]; exact hsz)
        rw [S.out] at this
        exact this
      go_wp2_with fail
      refine CP.out.mono ?_
      rintro e w2 ⟨pv, h, rfl, c1, c2, c3, c4⟩
      have C4 : Hid (Ou w0 w2 g off m y) := c4
      clear c4 CP
      go_wp2
      go_meet
      case rel => exact ⟨pv, h, rfl, rfl, c1, c2, c3, C4.out⟩
    case rest =>
    clear O6
    obtain ⟨pv, h, rfl, rfl, c1, c2, c3, z3⟩ := hcut
    have O6 : Hid (Ou w0 wc g off m y) := z3
    clear z3
    refine hk _ _ (wp_seq_k ?_)
    clear hk K
    intro K hk
    go_cut [11, 12] from 19 to 133 (fun z z' wc => ∃ (pv h : Nat) (u : Array Int), z = .int .i64 pv ∧ z' = .int .i64 h ∧ p ≤ pv ∧ pv < q ∧ h ≤ 1 ∧ u.size = n ∧ PermIn p q y u ∧ Ou w0 wc g off m u)
    case first =>
      clear hk
      by_cases hh : h = 2
      · subst hh
        have CR : Hid (Calls Tryz.prog 202 #[.slice (some ⟨g, off, none⟩) n cap, .int .i64 p, .int .i64 q] wc fun e w' => ∃ u, e = .returned (.tuple #[]) ∧ PermIn p q y u ∧ Ou w0 w' g off m u) := by
          have := reverse_any (cap := cap) O6.out (a := p) (b := q) (by omega) (by rw [S.out]; exact h2) (by rw [S.out]; exact hsz)
          rw [S.out] at this
          exact this
        go_wp2_with fail
        refine CR.out.mono ?_
        rintro e w2 ⟨u, rfl, c4, c5⟩
        have C4 : Hid (PermIn p q y u) := c4
        have C5 : Hid (Ou w0 w2 g off m u) := c5
        clear c4 c5 CR
        go_wp2
        go_meet
        case rel => exact ⟨(q - 1) - (pv - p), 1, u, by go_num, rfl, by omega, by omega, by omega, C4.out.1.trans S.out, C4.out, C5.out⟩
      · have hhI : ¬ (h : Int) = 2 := by omega
        have hhB : ((h : Int) == 2) = false := by simp; omega
        go_wp2
        go_meet
        case rel => exact ⟨pv, h, y, rfl, rfl, c1, c2, by omega, S.out, Go.Sort.permIn_refl _ _ _, O6.out⟩
    case rest =>
    clear c1 c2 c3
    obtain ⟨pw, h', u, rfl, rfl, c1, c2, c3, z1, z2, z3⟩ := hcut
    have S2 : Hid (u.size = n) := z1
    have B6 : Hid (Go.Sort.Below ltInt p q u) := B5.out.perm (by rw [S.out]; exact h2) z2
    have T8 : Hid (Todo a b d p q u) := T7.out.perm z2
    clear O6
    have O6 : Hid (Ou w0 wc g off m u) := z3
    clear z1 z2 z3 B5 T7 S
    refine hk _ _ (wp_seq_k ?_)
    clear hk K
    intro K hk
    go_cut [12] from 19 to 133 (fun z wc => ∃ (v : Array Int), v.size = n ∧ PermIn p q u v ∧ Ou w0 wc g off m v)
    case first =>
      clear hk
      obtain ⟨RR, hRR⟩ : ∃ RR, Go.Sort.partialInsertionSort ltInt u p q = RR := ⟨_, rfl⟩
      have HR1 : Hid (PermIn p q u RR.1 ∧ (RR.2 = true → SortedIn ltInt p q RR.1)) := by
        have := Go.Sort.partialInsertionSort_holds Go.Sort.swo_ltInt u p q (by omega) (by rw [S2.out]; exact h2) B6.out
        rw [hRR] at this
        exact this
      have CI3 : Hid (Calls Tryz.prog 203 #[.slice (some ⟨g, off, none⟩) n cap, .int .i64 p, .int .i64 q] wc fun e w' => e = .returned (.bool RR.2) ∧ Ou w0 w' g off m RR.1) := by
        have := partial_any (cap := cap) O6.out (a := p) (b := q) (by omega) (by rw [S2.out]; exact h2) (by rw [S2.out]; exact hsz)
        rw [S2.out, hRR] at this
        exact this
      clear hRR
      obtain ⟨v, bb⟩ := RR
      cases wb with
      | false =>
        go_wp2
        go_meet
        case rel => exact ⟨u, S2.out, Go.Sort.permIn_refl _ _ _, O6.out⟩
      | true =>
        cases wp with
        | false =>
          go_wp2
          go_meet
          case rel => exact ⟨u, S2.out, Go.Sort.permIn_refl _ _ _, O6.out⟩
        | true =>
          by_cases hh : h' = 1
          · subst hh
            go_wp2_with fail
            refine CI3.out.mono ?_
            rintro e w2 ⟨rfl, z3⟩
            have Z1 : Hid (PermIn p q u v) := HR1.out.1
            have Z2 : Hid (bb = true → SortedIn ltInt p q v) := HR1.out.2
            have Z3 : Hid (Ou w0 w2 g off m v) := z3
            clear z3 CI3 HR1
            cases bb with
            | false =>
              go_wp2
              go_meet
              case rel => exact ⟨v, Z1.out.1.trans S2.out, Z1.out, Z3.out⟩
            | true =>
              have HZ : Hid (∃ R, PermIn a b d R ∧ SortedIn ltInt a b R ∧ Ou w0 w2 g off m R) := FIN.out w2 u v T8.out Z1.out (Z2.out rfl) Z3.out
              go_wp2
              first | go_end0 | refine bodyPost_ret (results_none rfl _ _ _) rfl ?_
              obtain ⟨R, y1, y2, y3⟩ := HZ.out
              exact ⟨R, rfl, y1, y2, y3⟩
          · have hhI : ¬ (h' : Int) = 1 := by omega
            have hhB : ((h' : Int) == 1) = false := by simp; omega
            go_wp2
            go_meet
            case rel => exact ⟨u, S2.out, Go.Sort.permIn_refl _ _ _, O6.out⟩
    case rest =>
    clear O6 c3
    obtain ⟨v, z1, z2, z3⟩ := hcut
    have S3 : Hid (v.size = n) := z1
    have B7 : Hid (Go.Sort.Below ltInt p q v) := B6.out.perm (by rw [S2.out]; exact h2) z2
    have T9 : Hid (Todo a b d p q v) := T8.out.perm z2
    have O7 : Hid (Ou w0 wc g off m v) := z3
    obtain ⟨G, hG⟩ : ∃ G : Nat → Int, ∀ t, G t = v[t]! := ⟨fun t => v[t]!, fun _ => rfl⟩
    have HG : Hid (∀ t, G t = v[t]!) := hG
    have hc : ∀ t, t < n → wc.cell? ⟨g, off + t, none⟩ = some (.int .u64 (G t)) := fun t ht => by rw [hG]; exact z3.cell (by omega)
    have hpn : p < n := by omega
    have hwn : pw < n := by omega
    clear z1 z2 z3 B6 T8 S2 hG FIN
    refine hk _ _ ?_
    clear hk K
    by_cases hp0 : 0 < p
    · go_wp2
      go_quiet ((go_at_call 204; refine Calls.quiet_of_same (less_any _ _ _)))
      cases hl : ltInt (G (p - 1)) (G pw)
      · have CE : Hid (∀ W, Ou w0 W g off m v → Calls Tryz.prog 205 #[.slice (some ⟨g, off, none⟩) n cap, .int .i64 p, .int .i64 q, .int .i64 pw] W fun e w' => ∃ (mid : Nat) (y : Array Int), e = .returned (.int .i64 mid) ∧ p < mid ∧ mid ≤ q ∧ y.size = n ∧ Go.Sort.Below ltInt mid q y ∧ Ou w0 w' g off m y ∧ Todo a b d mid q y) := fun W hW => by
          obtain ⟨RR, hRR⟩ : ∃ RR, Go.Sort.partitionEqual ltInt v p q pw = RR := ⟨_, rfl⟩
          have := partEqual_any (cap := cap) hW c1 c2 (by rw [S3.out]; exact h2) (by rw [S3.out]; exact hsz)
          rw [S3.out, hRR] at this
          obtain ⟨mid0, y0⟩ := RR
          refine this.mono ?_
          rintro e w' ⟨rfl, z⟩
          obtain ⟨r1, r2, r3, r4, r5⟩ := Go.Sort.round_eq Go.Sort.swo_ltInt (Go.Sort.partitionEqual_holds _) hp0 c1 c2 (by rw [S3.out]; exact h2) B7.out (by rw [← HG.out, ← HG.out]; exact hl) hRR
          exact ⟨mid0, y0, rfl, r1, r2, r3.trans S3.out, r4, z, fun R t1 t2 => T9.out R (r5 R t1 t2).1 (r5 R t1 t2).2⟩
        go_wp2_with fail
        refine (CE.out _ (O7.out.drewN _)).mono ?_
        rintro e w2 ⟨mid, y, rfl, e1, e2, e3, e4, e5, e6⟩
        have E3 : Hid (y.size = n) := e3
        have E4 : Hid (Go.Sort.Below ltInt mid q y) := e4
        have E5 : Hid (Ou w0 w2 g off m y) := e5
        have E6 : Hid (Todo a b d mid q y) := e6
        clear e3 e4 e5 e6 CE hc HG B7 T9 S3 O7 HIH
        go_wp2
        go_roundw
        case rel => exact ⟨mid, q, l2, wb, wp, y, rfl, rfl, rfl, rfl, rfl, by omega, e2, h2, hl2, E3.out, E4.out, E5.out, E6.out⟩
        case measure => simp [iv]; omega
      · have CT : Hid (∀ W, Ou w0 W g off m v → Calls Tryz.prog 206 #[.slice (some ⟨g, off, none⟩) n cap, .int .i64 p, .int .i64 q, .int .i64 pw] W fun e w' => ∃ (mid : Nat) (f : Bool) (y : Array Int), e = .returned (.tuple #[.int .i64 mid, .bool f]) ∧ p ≤ mid ∧ mid < q ∧ y.size = n ∧ Ou w0 w' g off m y ∧ Go.Sort.Below ltInt p mid y ∧ Go.Sort.Below ltInt (mid + 1) q y ∧
            (∀ L, PermIn p mid y L → SortedIn ltInt p mid L → Go.Sort.Below ltInt (mid + 1) q L ∧ Todo a b d (mid + 1) q L) ∧
            (∀ L, PermIn (mid + 1) q y L → SortedIn ltInt (mid + 1) q L → Go.Sort.Below ltInt p mid L ∧ Todo a b d p mid L)) := fun W hW => by
          obtain ⟨RR, hRR⟩ : ∃ RR, Go.Sort.partition ltInt v p q pw = RR := ⟨_, rfl⟩
          have := partition_any (cap := cap) hW c1 c2 (by rw [S3.out]; exact h2) (by rw [S3.out]; exact hsz)
          rw [S3.out, hRR] at this
          obtain ⟨mid0, ap, y0⟩ := RR
          refine this.mono ?_
          rintro e w' ⟨f, rfl, z⟩
          obtain ⟨r1, r2, r3, r4, r5, r6, r7⟩ := Go.Sort.round_part Go.Sort.swo_ltInt (Go.Sort.partition_holds _) c1 c2 (by rw [S3.out]; exact h2) B7.out hRR
          refine ⟨mid0, f, y0, rfl, r1, r2, r3.trans S3.out, z, r4, r5, fun L l1 l2 => ?_, fun L l1 l2 => ?_⟩
          · obtain ⟨s1, s2⟩ := r6 L l1 l2
            exact ⟨s1, fun R t1 t2 => T9.out R (s2 R t1 t2).1 (s2 R t1 t2).2⟩
          · obtain ⟨s1, s2⟩ := r7 L l1 l2
            exact ⟨s1, fun R t1 t2 => T9.out R (s2 R t1 t2).1 (s2 R t1 t2).2⟩
        go_wp2_with fail
        refine (CT.out _ (O7.out.drewN _)).mono ?_
        rintro e w2 ⟨mid, f, y, rfl, e1, e2, e3, e4, e5, e6, e7, e8⟩
        have E3 : Hid (y.size = n) := e3
        have E4 : Hid (Ou w0 w2 g off m y) := e4
        have E5 : Hid (Go.Sort.Below ltInt p mid y) := e5
        have E6 : Hid (Go.Sort.Below ltInt (mid + 1) q y) := e6
        have E7 : Hid (∀ L, PermIn p mid y L → SortedIn ltInt p mid L → Go.Sort.Below ltInt (mid + 1) q L ∧ Todo a b d (mid + 1) q L) := e7
        have E8 : Hid (∀ L, PermIn (mid + 1) q y L → SortedIn ltInt (mid + 1) q L → Go.Sort.Below ltInt p mid L ∧ Todo a b d p mid L) := e8
        clear e3 e4 e5 e6 e7 e8 CT hc HG B7 T9 S3 O7
        by_cases hlr : mid - p < q - mid
        · have hlrI : (mid : Int) - (p : Int) < (q : Int) - (mid : Int) := by omega
          go_wp2_with fail
          refine (HIH.out w2 y p mid l2 (by omega) e1 (by omega) hl2 E3.out E5.out E4.out).mono ?_
          rintro e w3 ⟨L, rfl, f1, f2, f3⟩
          have F1 : Hid (L.size = n) := f1.1.trans E3.out
          have F2 : Hid (Go.Sort.Below ltInt (mid + 1) q L ∧ Todo a b d (mid + 1) q L) := E7.out L f1 f2
          have F3 : Hid (Ou w0 w3 g off m L) := f3
          clear f1 f2 f3
          go_wp2
          go_roundw
          case rel => exact ⟨mid + 1, q, l2, _, _, L, by go_num, rfl, rfl, rfl, rfl, by omega, by omega, h2, hl2, F1.out, F2.out.1, F3.out, F2.out.2⟩
          case measure => simp [iv]; omega
        · have hlrI : ¬ (mid : Int) - (p : Int) < (q : Int) - (mid : Int) := by omega
          have hm1 : (mid : Int) + 1 = ((mid + 1 : Nat) : Int) := by omega
          obtain ⟨mid1, hmid1⟩ : ∃ mid1, mid + 1 = mid1 := ⟨_, rfl⟩
          rw [hmid1] at hm1 E6 E8
          go_wp2_with fail
          refine (HIH.out w2 y mid1 q l2 (by omega) (by omega) h2 hl2 E3.out E6.out E4.out).mono ?_
          rintro e w3 ⟨L, rfl, f1, f2, f3⟩
          have F1 : Hid (L.size = n) := f1.1.trans E3.out
          have F2 : Hid (Go.Sort.Below ltInt p mid L ∧ Todo a b d p mid L) := E8.out L f1 f2
          have F3 : Hid (Ou w0 w3 g off m L) := f3
          clear f1 f2 f3
          go_wp2
          go_roundw
          case rel => exact ⟨p, mid, l2, _, _, L, rfl, rfl, rfl, rfl, rfl, by omega, by omega, by omega, hl2, F1.out, F2.out.1, F3.out, F2.out.2⟩
          case measure => simp [iv]; omega
    · have hp0I : ¬ (0 : Int) < (p : Int) := by omega
      obtain rfl : p = 0 := by omega
      go_wp2
      go_quiet (fail)
      have CT : Hid (∀ W, Ou w0 W g off m v → Calls Tryz.prog 206 #[.slice (some ⟨g, off, none⟩) n cap, .int .i64 0, .int .i64 q, .int .i64 pw] W fun e w' => ∃ (mid : Nat) (f : Bool) (y : Array Int), e = .returned (.tuple #[.int .i64 mid, .bool f]) ∧ 0 ≤ mid ∧ mid < q ∧ y.size = n ∧ Ou w0 w' g off m y ∧ Go.Sort.Below ltInt 0 mid y ∧ Go.Sort.Below ltInt (mid + 1) q y ∧
          (∀ L, PermIn 0 mid y L → SortedIn ltInt 0 mid L → Go.Sort.Below ltInt (mid + 1) q L ∧ Todo a b d (mid + 1) q L) ∧
          (∀ L, PermIn (mid + 1) q y L → SortedIn ltInt (mid + 1) q L → Go.Sort.Below ltInt 0 mid L ∧ Todo a b d 0 mid L)) := fun W hW => by
        obtain ⟨RR, hRR⟩ : ∃ RR, Go.Sort.partition ltInt v 0 q pw = RR := ⟨_, rfl⟩
        have := partition_any (cap := cap) hW c1 c2 (by rw [S3.out]; exact h2) (by rw [S3.out]; exact hsz)
        rw [S3.out, hRR] at this
        obtain ⟨mid0, ap, y0⟩ := RR
        refine this.mono ?_
        rintro e w' ⟨f, rfl, z⟩
        obtain ⟨r1, r2, r3, r4, r5, r6, r7⟩ := Go.Sort.round_part Go.Sort.swo_ltInt (Go.Sort.partition_holds _) c1 c2 (by rw [S3.out]; exact h2) B7.out hRR
        refine ⟨mid0, f, y0, rfl, r1, r2, r3.trans S3.out, z, r4, r5, fun L l1 l2 => ?_, fun L l1 l2 => ?_⟩
        · obtain ⟨s1, s2⟩ := r6 L l1 l2
          exact ⟨s1, fun R t1 t2 => T9.out R (s2 R t1 t2).1 (s2 R t1 t2).2⟩
        · obtain ⟨s1, s2⟩ := r7 L l1 l2
          exact ⟨s1, fun R t1 t2 => T9.out R (s2 R t1 t2).1 (s2 R t1 t2).2⟩
      go_wp2_with fail
      refine (CT.out _ (O7.out.drewN _)).mono ?_
      rintro e w2 ⟨mid, f, y, rfl, e1, e2, e3, e4, e5, e6, e7, e8⟩
      have E3 : Hid (y.size = n) := e3
      have E4 : Hid (Ou w0 w2 g off m y) := e4
      have E5 : Hid (Go.Sort.Below ltInt 0 mid y) := e5
      have E6 : Hid (Go.Sort.Below ltInt (mid + 1) q y) := e6
      have E7 : Hid (∀ L, PermIn 0 mid y L → SortedIn ltInt 0 mid L → Go.Sort.Below ltInt (mid + 1) q L ∧ Todo a b d (mid + 1) q L) := e7
      have E8 : Hid (∀ L, PermIn (mid + 1) q y L → SortedIn ltInt (mid + 1) q L → Go.Sort.Below ltInt 0 mid L ∧ Todo a b d 0 mid L) := e8
      clear e3 e4 e5 e6 e7 e8 CT hc HG B7 T9 S3 O7
      by_cases hlr : mid - 0 < q - mid
      · have hlrI : (mid : Int) - 0 < (q : Int) - (mid : Int) := by omega
        go_wp2_with fail
        refine (HIH.out w2 y 0 mid l2 (by omega) e1 (by omega) hl2 E3.out E5.out E4.out).mono ?_
        rintro e w3 ⟨L, rfl, f1, f2, f3⟩
        have F1 : Hid (L.size = n) := f1.1.trans E3.out
        have F2 : Hid (Go.Sort.Below ltInt (mid + 1) q L ∧ Todo a b d (mid + 1) q L) := E7.out L f1 f2
        have F3 : Hid (Ou w0 w3 g off m L) := f3
        clear f1 f2 f3
        go_wp2
        go_roundw
        case rel => exact ⟨mid + 1, q, l2, _, _, L, by go_num, rfl, rfl, rfl, rfl, by omega, by omega, h2, hl2, F1.out, F2.out.1, F3.out, F2.out.2⟩
        case measure => simp [iv]; omega
      · have hlrI : ¬ (mid : Int) - 0 < (q : Int) - (mid : Int) := by omega
        have hm1 : (mid : Int) + 1 = ((mid + 1 : Nat) : Int) := by omega
        obtain ⟨mid1, hmid1⟩ : ∃ mid1, mid + 1 = mid1 := ⟨_, rfl⟩
        rw [hmid1] at hm1 E6 E8
        go_wp2_with fail
        refine (HIH.out w2 y mid1 q l2 (by omega) (by omega) h2 hl2 E3.out E6.out E4.out).mono ?_
        rintro e w3 ⟨L, rfl, f1, f2, f3⟩
        have F1 : Hid (L.size = n) := f1.1.trans E3.out
        have F2 : Hid (Go.Sort.Below ltInt 0 mid L ∧ Todo a b d 0 mid L) := E8.out L f1 f2
        have F3 : Hid (Ou w0 w3 g off m L) := f3
        clear f1 f2 f3
        go_wp2
        go_roundw
        case rel => exact ⟨0, mid, l2, _, _, L, rfl, rfl, rfl, rfl, rfl, by omega, by omega, by omega, hl2, F1.out, F2.out.1, F3.out, F2.out.2⟩
        case measure => simp [iv]; omega
end Go.Proofs.YtkbpnkjjmipjfaaGreat.U
namespace Go.Proofs.YtkbpnkjjmipjfaaGreat.U
open Go.ChangeShapes Go.WideShapes Go.ChangeAt Go.RowKit
open Go.Sort (swp ltInt PermIn SortedIn)
set_option linter.unusedVariables false
set_option maxRecDepth 8192

theorem pdq_any {w0 : World} {g off m cap n : Nat} (hsz : n < 1000000) : ∀ (N : Nat) (w : World) (d : Array Int) (a b lim : Nat), b - a ≤ N → a ≤ b → b ≤ n → lim ≤ 64 → d.size = n → Go.Sort.Below ltInt a b d → Ou w0 w g off m d →
    Calls Tryz.prog 161 #[.slice (some ⟨g, off, none⟩) n cap, .int .i64 a, .int .i64 b, .int .i64 lim] w fun e w' => ∃ R, e = .returned (.tuple #[]) ∧ PermIn a b d R ∧ SortedIn ltInt a b R ∧ Ou w0 w' g off m R
  | 0, w, d, a, b, lim, h0, h1, h2, h3, h4, h5, h6 => pdq_round h6 h1 h2 h4 hsz h3 h5 (fun W x a' b' l' q => by omega)
  | N + 1, w, d, a, b, lim, h0, h1, h2, h3, h4, h5, h6 => pdq_round h6 h1 h2 h4 hsz h3 h5 (fun W x a' b' l' q1 q2 q3 q4 q5 q6 q7 => pdq_any hsz N W x a' b' l' (by omega) q2 q3 q4 q5 q6 q7)
theorem len_any (n : Nat) (hn : n < 1000000) (w : World) : Calls Tryz.prog 118 #[.int .u64 n] w fun e w' => ∃ k : Nat, e = .returned (.int .i64 k) ∧ k ≤ 64 ∧ w' = w := by
  refine (calls_of_every_depth fun D => AnySM.bits_LenIn { P.sortA with } D (n : Int) w (by omega) (by omega)).mono ?_
  rintro e w' ⟨rfl, rfl⟩
  exact ⟨_, rfl, Lib.bitLen_le _ 64 (Nat.le_refl _) (by rw [Int.toNat_natCast]; omega), rfl⟩
theorem sort_row {w : World} {g m cap : Nat} {d : Array Int} (hO : Ou w w g 0 m d) (hsz : d.size < 1000000) :
    Calls Tryz.prog 121 #[.slice (some ⟨g, 0, none⟩) d.size cap] w fun e w' => ∃ R, e = .returned (.tuple #[]) ∧ PermIn 0 d.size d R ∧ SortedIn ltInt 0 d.size R ∧ Ou w w' g 0 m R := by
  obtain ⟨n, hn⟩ : ∃ n, d.size = n := ⟨_, rfl⟩
  rw [hn] at hsz ⊢
  have CP : Hid (∀ lim : Nat, lim ≤ 64 → Calls Tryz.prog 161 #[.slice (some ⟨g, 0, none⟩) n cap, .int .i64 (0 : Nat), .int .i64 n, .int .i64 lim] w fun e w' => ∃ R, e = .returned (.tuple #[]) ∧ PermIn 0 n d R ∧ SortedIn ltInt 0 n R ∧ Ou w w' g 0 m R) := fun lim hl =>
    pdq_any hsz n w d 0 n lim (by omega) (by omega) (Nat.le_refl _) hl hn (Or.inl rfl) hO
  have CL : Hid (Calls _ _ _ _ _) := len_any n hsz w
  clear hO hn
  go_enter Tryz.func121, Tryz.ntmps121
  go_wp2_with fail
  refine CL.out.mono ?_
  rintro e w1 ⟨k, rfl, hk, rfl⟩
  go_wp2_with fail
  refine (CP.out k hk).mono ?_
  rintro e w2 ⟨R, rfl, h1, h2, h3⟩
  have H1 : Hid (PermIn 0 n d R) := h1
  have H2 : Hid (SortedIn ltInt 0 n R) := h2
  have H3 : Hid (Ou w1 w2 g 0 m R) := h3
  clear h1 h2 h3 CP CL
  go_wp2
  go_end0
  exact ⟨R, rfl, H1.out, H2.out, H3.out⟩
theorem ins_nil (w : World) : Calls Tryz.prog 198 #[.slice none 0 0, .int .i64 0, .int .i64 0] w fun e w' => e = .returned (.tuple #[]) ∧ w' = w := by
  go_enter Tryz.func198, Tryz.ntmps198
  go_wp2
  refine wp_loop_rounds 1 ?_
  rw [rounds_succ]
  go_wp2
  go_end0
  exact ⟨rfl, rfl⟩
theorem pdq_nil (w : World) (l : Nat) : Calls Tryz.prog 161 #[.slice none 0 0, .int .i64 0, .int .i64 0, .int .i64 l] w fun e w' => e = .returned (.tuple #[]) ∧ w' = w := by
  have C := ins_nil w
  go_enter Tryz.func161, Tryz.ntmps161
  go_wp2
  refine wp_loop_rounds 1 ?_
  rw [rounds_succ]
  go_wp2_with fail
  refine C.mono ?_
  rintro e w1 ⟨rfl, rfl⟩
  go_wp2
  first | go_end0 | refine bodyPost_ret (results_none rfl _ _ _) rfl ?_
  exact ⟨rfl, rfl⟩
theorem sort_nil (w : World) : Calls Tryz.prog 121 #[.slice none 0 0] w fun e w' => e = .returned (.tuple #[]) ∧ w' = w := by
  have CL : Hid (Calls _ _ _ _ _) := len_any 0 (by omega) w
  go_enter Tryz.func121, Tryz.ntmps121
  go_wp2_with fail
  refine CL.out.mono ?_
  rintro e w1 ⟨k, rfl, hk, rfl⟩
  go_wp2_with fail
  refine (pdq_nil _ k).mono ?_
  rintro e w2 ⟨rfl, rfl⟩
  go_wp2
  go_end0
  exact ⟨rfl, rfl⟩
def vs (l : List Int) : List Value := l.map fun x => .int .u64 x
theorem vs_len (l : List Int) : (vs l).length = l.length := by simp [vs]
theorem sort_any {w : World} {base : Nat} {v : Value} {l : List Int} (h : w.ownsRow base 22 1 v l.length (vs l)) (hl : l.length < 1000000) :
    Calls Tryz.prog 121 #[v] w fun e w' => ∃ l' : List Int, e = .returned (.tuple #[]) ∧ l'.Perm l ∧ l'.Pairwise (· ≤ ·) ∧ w'.ownsRow base 22 1 v l'.length (vs l') ∧ w.grownBy w' v.ownBlock := by
  obtain ⟨h0, ⟨rfl, h1⟩ | ⟨g, cap, cur, rfl, h2, h3, h4, h5, h6, h7⟩⟩ := h
  · obtain rfl : l = [] := List.length_eq_zero_iff.1 h1
    refine (sort_nil w).mono ?_
    rintro e w' ⟨rfl, rfl⟩
    exact ⟨[], rfl, List.Perm.refl _, List.Pairwise.nil, World.ownsRow_nil _ _ _ _, ⟨rfl, rfl, rfl, Nat.le_refl _, fun _ _ _ => rfl⟩⟩
  · have hget : ∀ t, t < l.length → cur[0 + t]? = some (.int .u64 l.toArray[t]!) := fun t ht => by
      have e1 : (cur.toList.take (l.length * 1))[t]? = cur.toList[t]? := by rw [List.getElem?_take]; simp [ht]
      rw [h7] at e1
      rw [Nat.zero_add, ← Array.getElem?_toList, ← e1]
      simp [vs, ht]
    have hO : Ou w w g 0 (cap * 1) l.toArray := Ou.refl h3 h6 (by simp; omega) (by simpa using hget)
    have := sort_row (cap := cap) hO (by simpa using hl)
    rw [List.size_toArray] at this
    refine this.mono ?_
    rintro e w' ⟨R, rfl, r1, r2, r3⟩
    obtain ⟨c, c1, c2, c3, c4⟩ := r3.ce
    have hs : R.size = l.length := by rw [r1.1]; simp
    refine ⟨R.toList, rfl, ?_, ?_, ⟨by simp [vs_len], Or.inr ⟨g, cap, c, by simp [hs], h2, c1, by simp [hs]; omega, h5, c2, ?_⟩⟩, r3.gr⟩
    · have := r1.2.2
      have e1 : (R.extract 0 l.length).toList = R.toList := by rw [← hs]; simp
      have e2 : (l.toArray.extract 0 l.length).toList = l := by simp
      rw [e1, e2] at this
      exact this
    · rw [List.pairwise_iff_getElem]
      intro i j hi hj hij
      have hi' : i < R.size := by simpa using hi
      have hj' : j < R.size := by simpa using hj
      have := r2 i j (Nat.zero_le _) hij (by rw [← hs]; exact hj')
      rw [getElem!_pos R j hj', getElem!_pos R i hi'] at this
      simp [Go.Sort.ltInt] at this
      simpa using this
    · apply List.ext_getElem?
      intro t
      rw [List.getElem?_take]
      by_cases ht : t < R.size
      · have := c4 t ht
        rw [Nat.zero_add] at this
        simp only [Array.length_toList, Nat.mul_one, ht, if_true]
        rw [Array.getElem?_toList, this]
        simp [vs, ht]
      · simp [vs, ht]
end Go.Proofs.YtkbpnkjjmipjfaaGreat.U
