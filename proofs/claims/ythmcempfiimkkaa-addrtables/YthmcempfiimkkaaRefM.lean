/- The reference's Tables over a row of spans that may all be: it marks each table that a span needs and counts the marks; nothing that was there turns. -/
import Derived.Test.YthmcempfiimkkaaRefT
namespace Go.Proofs.Ythmcempfiimkkaa
open Go.ChangeShapes Go.WideShapes Go.ChangeAt Go.RowKit
set_option linter.unusedVariables false

/-- The marks: at block g, M of them, the k-th says p k; none is frozen. -/
def Th (w : World) (g M : Nat) (p : Nat → Bool) : Prop := g < w.heap.size ∧ ∀ k, k < M → w.cell? ⟨g, k, none⟩ = some (.bool (p k)) ∧ w.frozen? ⟨g, k, none⟩ = false
theorem Th.congr {w : World} {g M : Nat} {p q : Nat → Bool} (h : Th w g M p) (e : ∀ k, k < M → p k = q k) : Th w g M q := ⟨h.1, fun k hk => by rw [← e k hk]; exact h.2 k hk⟩
theorem Th.drewN {w : World} {g M : Nat} {p : Nat → Bool} (h : Th w g M p) (n : Nat) : Th (w.drewN n) g M p := h
theorem Th.set {w : World} {g M : Nat} {p : Nat → Bool} (h : Th w g M p) (t : Nat) (ht : t < M) : Th (w.setCell ⟨g, t, none⟩ (.bool true)) g M (fun k => p k || k == t) := by
  refine ⟨by simpa [World.setCell] using h.1, fun k hk => ⟨?_, ?_⟩⟩
  · by_cases e : k = t
    · subst e
      have := (h.2 k hk).1
      rw [World.cell?_setCell_same _ _ _ this]; simp
    · rw [World.cell?_setCell_other _ _ _ _ (by intro h; cases h; exact e rfl)]
      rw [(h.2 k hk).1]; simp [e]
  · rw [World.frozen?_setCell]; exact (h.2 k hk).2
theorem cn_set (p : Nat → Bool) (t : Nat) (hp : p t = false) : ∀ M, cn (fun k => p k || k == t) M = cn p M + (if t < M then 1 else 0)
  | 0 => by simp [cn]
  | M + 1 => by
    have ih := cn_set p t hp M
    simp only [cn]
    rw [ih]
    by_cases e : M = t
    · subst e; simp [hp]
    · by_cases h1 : t < M
      · simp [e, h1, show t < M + 1 by omega]; omega
      · simp [e, h1, show ¬ t < M + 1 by omega]
theorem made_Th {w : World} {base g M : Nat} (h : w.ownsRow base 4 1 (.slice (some ⟨g, 0, none⟩) M M) M (madeCells #[.bool false] (M * 1)).toList) : Th w g M (fun _ => false) := by
  rcases h.2 with ⟨hnil, _⟩ | ⟨g', cap', cur, hv, hbase, hb, h1, h2, h3, h4⟩
  · cases hnil
  · cases hv
    rw [toList_madeCells_one] at h4
    refine ⟨(Array.getElem?_eq_some_iff.1 hb).1, fun k hk => ?_⟩
    have hcur : cur[k]? = some (.bool false) := by
      rw [← Array.getElem?_toList, ← List.getElem?_take_of_lt (show k < M * 1 by omega), h4]
      simp [hk]
    simp [World.cell?, World.frozen?, hb, hcur]
def sumR (xs : List (Int × Int)) : Nat → Nat
  | 0 => 1
  | 1 => 1 + cn (cov 32 xs) 32768
  | 2 => 1 + cn (cov 32 xs) 32768 + cn (cov 1024 xs) 1024
  | _ => total xs
/-- What a level is: how many pages a table of it stands for, how many there are. -/
theorem level_of (xs : List (Int × Int)) (j : Nat) (hj : j < 3) : ∃ (q : Int) (M : Nat), 1 ≤ q ∧ 1048576 ≤ q * M ∧ M ≤ 32768 ∧ sumR xs (j + 1) = sumR xs j + cn (cov q xs) M ∧ sumR xs j ≤ 33825 ∧
    (∀ w, Calls Try.prog 36 #[.int .i64 1048576, .int .i64 ((j : Int) + 1)] w fun e w' => e = .returned (.int .i64 (M : Int)) ∧ w' = w) ∧
    (∀ a w, 0 ≤ a → a ≤ 1048576 → Calls Try.prog 36 #[.int .i64 a, .int .i64 ((j : Int) + 1)] w fun e w' => e = .returned (.int .i64 (a / q)) ∧ w' = w) := by
  have T := total_bd xs
  have e : ((j + 1 : Nat) : Int) = (j : Int) + 1 := by omega
  have c1 := cn_le (cov 32 xs) 32768
  have c2 := cn_le (cov 1024 xs) 1024
  rcases (show j = 0 ∨ j = 1 ∨ j = 2 by omega) with rfl | rfl | rfl
  · refine ⟨32, 32768, by omega, by omega, by omega, rfl, by simp only [sumR]; omega, fun w => ?_, fun a w h0 h1 => ?_⟩
    · have := over_any 1048576 1 (by omega) (by omega) (by omega) w
      rw [ov_1] at this; exact this
    · have := over_any a 1 h0 h1 (by omega) w
      rw [ov_1] at this; exact this
  · refine ⟨1024, 1024, by omega, by omega, by omega, rfl, by simp only [sumR]; omega, fun w => ?_, fun a w h0 h1 => ?_⟩
    · have := over_any 1048576 2 (by omega) (by omega) (by omega) w
      rw [ov_2] at this; exact this
    · have := over_any a 2 h0 h1 (by omega) w
      rw [ov_2] at this; exact this
  · refine ⟨32768, 32, by omega, by omega, by omega, rfl, by simp only [sumR]; omega, fun w => ?_, fun a w h0 h1 => ?_⟩
    · have := over_any 1048576 3 (by omega) (by omega) (by omega) w
      rw [ov_3] at this; exact this
    · have := over_any a 3 h0 h1 (by omega) w
      rw [ov_3] at this; exact this

/-- The marks while a span's tables are gone through: those of before, and from f on those below x. -/
def mk (c : Nat → Bool) (f x : Nat) (y : Nat) : Bool := c y || (decide (f ≤ y) && decide (y < x))
theorem mk_start (c : Nat → Bool) (f y : Nat) : mk c f f y = c y := by
  unfold mk
  have : (decide (f ≤ y) && decide (y < f)) = false := by simp
  rw [this]; simp
theorem mk_at (c : Nat → Bool) (f x : Nat) : mk c f x x = c x := by simp [mk]
theorem mk_next (c : Nat → Bool) (f x : Nat) (h : f ≤ x) (y : Nat) : mk c f (x + 1) y = (mk c f x y || y == x) := by
  unfold mk
  rw [Bool.eq_iff_iff]
  simp only [Bool.or_eq_true, Bool.and_eq_true, decide_eq_true_eq, beq_iff_eq]
  constructor
  · rintro (h1 | ⟨h1, h2⟩)
    · exact Or.inl (Or.inl h1)
    · by_cases e : y = x
      · exact Or.inr e
      · exact Or.inl (Or.inr ⟨h1, by omega⟩)
  · rintro ((h1 | ⟨h1, h2⟩) | h1)
    · exact Or.inl h1
    · exact Or.inr ⟨h1, by omega⟩
    · exact Or.inr ⟨by omega, by omega⟩
theorem mk_skip (c : Nat → Bool) (f x : Nat) (h : f ≤ x) (hc : c x = true) (y : Nat) : mk c f (x + 1) y = mk c f x y := by
  rw [mk_next c f x h]
  by_cases e : y = x
  · subst e; simp [mk, hc]
  · simp [e]
theorem cov_take (q : Int) (xs : List (Int × Int)) (k : Nat) (h : k < xs.length) (y : Nat) : cov q (xs.take (k + 1)) y = (cov q (xs.take k) y || ned q (xs[k].1, xs[k].2) y) := by
  rw [List.take_succ_eq_append_getElem h, cov_snoc]
theorem ned_zero (q : Int) (p n : Int) (h : n = 0) (y : Nat) : ned q (p, n) y = false := by simp [ned, h]
theorem ned_mk (q : Int) (p n : Int) (f e : Nat) (hp : 0 < n) (hf : p / q = (f : Int)) (he : (p + n - 1) / q = (e : Int)) (y : Nat) : ned q (p, n) y = (decide (f ≤ y) && decide (y < e + 1)) := by
  rw [Bool.eq_iff_iff, ned_iff]
  simp [hf, he, hp]
  omega
theorem mark_bd {xs : List (Int × Int)} {p n q : Int} {M : Nat} (hq : 1 ≤ q) (hM : 1048576 ≤ q * M) (hp : 0 ≤ p) (hn : 0 < n) (hs : p + n ≤ 1048576) : ∃ f e : Nat, p / q = (f : Int) ∧ (p + n - 1) / q = (e : Int) ∧ f ≤ e ∧ e < M := by
  have h0 : 0 ≤ p / q := Int.ediv_nonneg hp (by omega)
  have h1 : p / q ≤ (p + n - 1) / q := Int.ediv_le_ediv (by omega) (by omega)
  have h2 : (p + n - 1) / q < M := by
    apply Int.ediv_lt_of_lt_mul (by omega)
    have : (M : Int) * q = q * M := Int.mul_comm _ _
    omega
  obtain ⟨f, hf⟩ := Int.eq_ofNat_of_zero_le h0
  obtain ⟨e, he⟩ := Int.eq_ofNat_of_zero_le (show 0 ≤ (p + n - 1) / q by omega)
  exact ⟨f, e, hf, he, by omega, by omega⟩

set_option maxRecDepth 100000 in
set_option maxHeartbeats 4000000 in
theorem rTables_ok (b off cap : Nat) (xs : List (Int × Int)) (hx : ∀ s ∈ xs, fits s) (hn : xs.length ≤ 1024) (ao : Option Addr) (w : World) (hr : xs = [] ∨ ao = some ⟨b, off, none⟩ ∧ Row w b off xs) (hv : ∀ s ∈ xs, mayS s = true) :
    Calls Try.prog 20 #[.slice ao xs.length cap] w fun e w' => e = .returned (.tuple #[.int .i64 (total xs : Int), .int .i64 0]) ∧ Below w.heap.size w w' := by
  obtain ⟨i0, hi, hz0, hz1, hz2⟩ := info_parts Try.infoB
  have Hx : Hid _ := hx
  have Hr : Hid _ := hr
  have Hv : Hid _ := hv
  clear hx hr hv
  go_enter Try.func20, Try.ntmps20
  go_wp2
  go_loopw [4] (fun i wr => ∃ k : Nat, k ≤ xs.length ∧ i = .int .i64 k ∧ Below w.heap.size w wr) (fun i _ => xs.length - (intOf i).toNat)
  case atStart => exact ⟨0, Nat.zero_le _, rfl, Below.refl _ _⟩
  case round =>
    obtain ⟨k, hk, rfl, hb⟩ := hrel
    by_cases hlt : k < xs.length
    · obtain ⟨rfl, hbk, hc⟩ := (Hr.out).resolve_left (fun h => by rw [h] at hlt; simp at hlt)
      obtain ⟨c1, c2⟩ := hc k hlt
      have c1' := ((bcell hb).1 _ _ hbk).trans c1
      have c2' := ((bcell hb).1 _ _ hbk).trans c2
      obtain ⟨f1, f2⟩ := Hx.out xs[k] (List.getElem_mem _)
      have hm : mayS (xs[k].1, xs[k].2) = true := Hv.out xs[k] (List.getElem_mem _)
      clear c1 c2 hc
      generalize xs[k].1 = p at *
      generalize xs[k].2 = n at *
      go_wp2_with (go_at_call 43; refine (May_any _ _ f1 f2 _).mono ?_; rintro e w' ⟨rfl, rfl⟩)
      go_roundw
      case rel => exact ⟨k + 1, by omega, by go_num, hb.alloc hb.size _⟩
      case measure => simp [intOf]; omega
    · obtain rfl : k = xs.length := by omega
      clear hlt
      go_wp2
      go_loopw [5, 6] (fun n l wr => ∃ j : Nat, j ≤ 3 ∧ l = .int .i64 j ∧ n = .int .i64 (sumR xs j : Nat) ∧ Below w.heap.size w wr) (fun _ l _ => 3 - (intOf l).toNat)
      case atStart => exact ⟨0, by omega, rfl, rfl, hb⟩
      case round =>
        clear hb
        obtain ⟨j, hj, rfl, rfl, hb⟩ := hrel
        by_cases hj3 : j < 3
        · obtain ⟨q, M, hq, hM, hMl, hsum, hsb, hoM, hoa⟩ := level_of xs j hj3
          have HM : Hid _ := hM
          have HS : Hid _ := hsum
          have HO : Hid _ := hoM
          have HA : Hid _ := hoa
          clear hM hsum hoM hoa
          generalize sumR xs j = nj at *
          go_wp2_with (first
            | (go_at_call 36; refine (HO.out _).mono ?_; rintro e w' ⟨rfl, rfl⟩)
            | (at_make; refine wpList_make_full _ rfl _ _ 55 rfl w.heap.size 4 i0 (.bool false) 1 Try.underlying55 hi hz0 hz1 _ _ _ _ M rfl rfl rfl rfl (by rw [hz2]; omega) (by unfold maxLen; omega) hb.size ?_; intro w1 hown1 hgrow1))
          have hT0 : Th w1 _ M (fun _ => false) := made_Th hown1
          have hb1 : Below w.heap.size w w1 := hb.grown hgrow1 hb.size (fun k h => by cases h)
          have hgB := hb.size
          clear hown1 hgrow1 hb HO
          generalize w'.heap.size = g at *
          go_loopw [5, 8] (fun n i wr => ∃ k : Nat, k ≤ xs.length ∧ i = .int .i64 k ∧ n = .int .i64 ((nj + cn (cov q (xs.take k)) M : Nat) : Int) ∧ Th wr g M (cov q (xs.take k)) ∧ Below w.heap.size w wr) (fun _ i _ => xs.length - (intOf i).toNat)
          case atStart =>
            have h0 : ∀ y, cov q (xs.take 0) y = false := fun y => by simp [cov]
            have hc0 : ∀ M, cn (fun _ => false) M = 0 := fun M => by induction M with | zero => rfl | succ M ih => simp [cn, ih]
            refine ⟨0, Nat.zero_le _, rfl, ?_, hT0.congr (fun y _ => (h0 y).symm), hb1⟩
            rw [cn_congr (q := fun _ => false) M (fun y _ => h0 y), hc0]; rfl
          case round =>
            clear hT0 hb1
            obtain ⟨k, hk, rfl, rfl, hT, hb⟩ := hrel
            have hcl := cn_le (cov q (xs.take k)) M
            by_cases hlt : k < xs.length
            · obtain ⟨rfl, hbk, hc⟩ := (Hr.out).resolve_left (fun h => by rw [h] at hlt; simp at hlt)
              obtain ⟨c1, c2⟩ := hc k hlt
              have c1' := ((bcell hb).1 _ _ hbk).trans c1
              have c2' := ((bcell hb).1 _ _ hbk).trans c2
              have hm : mayS (xs[k].1, xs[k].2) = true := Hv.out xs[k] (List.getElem_mem _)
              have HT : Hid _ := cov_take q xs k hlt
              have C1 : Hid _ := c1
              have C2 : Hid _ := c2
              clear c1 c2 hc
              generalize xs[k].1 = p at *
              generalize xs[k].2 = n at *
              simp only [mayS, Bool.and_eq_true, decide_eq_true_eq] at hm
              obtain ⟨⟨m0, m1⟩, m2⟩ := hm
              generalize hcc : cov q (xs.take k) = cc at *
              clear hcc
              have HTh : Hid (Th wr g M cc) := hT
              clear hT
              by_cases hz : n = 0
              · have hzb : (n == 0) = true := by simp [hz]
                clear hz
                go_wp2
                go_roundw
                case rel =>
                  have e : ∀ y, cov q (xs.take (k + 1)) y = cc y := fun y => by rw [HT.out y, ned_zero q p n (by simpa using hzb)]; simp
                  exact ⟨k + 1, by omega, by go_num, by rw [cn_congr M (fun y _ => e y)], HTh.out.congr (fun y _ => (e y).symm), hb⟩
                case measure => simp [intOf]; omega
              · have hzb : (n == 0) = false := by simp [hz]
                have hpos : 0 < n := by omega
                clear hz
                obtain ⟨f, e, hf, he, hfe, heM⟩ := mark_bd (xs := xs) hq HM.out m0 hpos m2
                have HF : Hid _ := fun w => HA.out p w m0 (by omega)
                have HE : Hid _ := fun w => HA.out (p + n - 1) w (by omega) (by omega)
                have HN : Hid _ := ned_mk q p n f e hpos hf he
                rw [hf] at HF
                rw [he] at HE
                clear hf he
                go_wp2
                go_quiet ((go_at_call 36; exact Calls.quiet_of_same (HE.out _)))
                go_wp2_with (go_at_call 36; refine (HF.out _).mono ?_; rintro e w' ⟨rfl, rfl⟩)
                go_loopw [5, 10] (fun n t wy => ∃ x : Nat, f ≤ x ∧ x ≤ e + 1 ∧ t = .int .i64 x ∧ n = .int .i64 ((nj + cn (mk cc f x) M : Nat) : Int) ∧ Th wy g M (mk cc f x) ∧ Below w.heap.size w wy) (fun _ t _ => e + 1 - (intOf t).toNat)
                case atStart =>
                  exact ⟨f, Nat.le_refl _, by omega, rfl, by rw [cn_congr M (fun y _ => mk_start cc f y)]; go_num, (HTh.out.drewN nq).congr (fun y _ => (mk_start cc f y).symm), ⟨hb.os, hb.tape, hb.output, hb.size, hb.block⟩⟩
                case round =>
                  clear hb HTh c1' c2'
                  obtain ⟨x, hx1, hx2, rfl, rfl, hT, hb⟩ := hrel
                  have hcm := cn_le (mk cc f x) M
                  by_cases hxe : x ≤ e
                  · obtain ⟨g1, g2⟩ := hT.2 x (by omega)
                    rw [mk_at] at g1
                    have HTh : Hid (Th _ g M (mk cc f x)) := hT
                    clear hT
                    cases hcx : cc x with
                    | true =>
                      rw [hcx] at g1
                      have HC : Hid _ := hcx
                      clear hcx
                      go_wp2
                      go_roundw
                      case rel => exact ⟨x + 1, by omega, by omega, by go_num, by rw [cn_congr M (fun y _ => mk_skip cc f x hx1 HC.out y)], HTh.out.congr (fun y _ => (mk_skip cc f x hx1 HC.out y).symm), hb⟩
                      case measure => simp [intOf]; omega
                    | false =>
                      rw [hcx] at g1
                      have HC : Hid _ := hcx
                      clear hcx
                      go_wp2
                      go_roundw
                      case rel =>
                        refine ⟨x + 1, by omega, by omega, by go_num, ?_, (HTh.out.set x (by omega)).congr (fun y _ => (mk_next cc f x hx1 y).symm), hb.setCell hgB _⟩
                        rw [cn_congr M (fun y _ => mk_next cc f x hx1 y), cn_set (mk cc f x) x (by rw [mk_at]; exact HC.out) M, if_pos (by omega)]
                        go_num
                      case measure => simp [intOf]; omega
                  · obtain rfl : x = e + 1 := by omega
                    have HTh : Hid (Th _ g M (mk cc f (e + 1))) := hT
                    clear hT
                    go_wp2
                    go_roundw
                    case rel =>
                      have ee : ∀ y, cov q (xs.take (k + 1)) y = mk cc f (e + 1) y := fun y => by rw [HT.out y, HN.out y]; rfl
                      exact ⟨k + 1, by omega, by go_num, by rw [cn_congr M (fun y _ => ee y)], HTh.out.congr (fun y _ => (ee y).symm), hb⟩
                    case measure => simp [intOf]; omega
            · obtain rfl : k = xs.length := by omega
              rw [List.take_length]
              rw [List.take_length] at hcl
              have hS := HS.out
              go_wp2
              go_roundw
              case rel => exact ⟨j + 1, by omega, by go_num, by rw [hS], hb⟩
              case measure => simp [intOf]; omega
        · obtain rfl : j = 3 := by omega
          go_wp2
          go_ret2
          exact ⟨rfl, hb⟩
end Go.Proofs.Ythmcempfiimkkaa
