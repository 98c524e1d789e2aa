/- What addr.Tables gives back over a row of spans that lies in memory: an error, or one table and for each of three levels the fold over the spans that have pages, in a rising order; the sort's own contract is taken as a premise here. -/
import Derived.Test.YthmcempfiimkkabTabs
namespace Go.Proofs.Ythmcempfiimkkab
open Go.ChangeShapes Go.WideShapes Go.ChangeAt Go.RowKit
set_option linter.unusedVariables false

theorem Try.infoS : (Try.prog.info? 24).map (fun i => (i.zero, i.size, i.bytes)) = some (some (.agg #[.int .i64 0, .int .i64 0]), 2, 16) := by kernel_rfl

/-- May a span be? -/
def mayS (s : Int × Int) : Bool := decide (0 ≤ s.1) && decide (0 ≤ s.2) && decide (s.1 + s.2 ≤ 1048576)
theorem spanMayBe_any (p n : Int) (h1 : p ≤ 9223372036854775807) (h2 : n ≤ 9223372036854775807) (w : World) :
    Calls Try.prog 15 #[.agg #[.int .i64 p, .int .i64 n]] w fun e w' => e = .returned (.bool (mayS (p, n))) ∧ w' = w.alloc (.cells #[.int .i64 p, .int .i64 n] 24) := by
  by_cases c1 : 0 ≤ p
  · by_cases c2 : 0 ≤ n
    · have e : mayS (p, n) = decide (p ≤ 1048576 - n) := by rw [Bool.eq_iff_iff]; simp [mayS]; omega
      rw [e]
      go_enter Try.func15, Try.ntmps15
      go_wp2
      go_ret
      exact ⟨rfl, rfl⟩
    · have e : mayS (p, n) = false := by simp [mayS, c2]
      rw [e]
      go_enter Try.func15, Try.ntmps15
      go_wp2
      go_ret
      exact ⟨rfl, rfl⟩
  · have e : mayS (p, n) = false := by simp [mayS, c1]
    rw [e]
    go_enter Try.func15, Try.ntmps15
    go_wp2
    go_ret
    exact ⟨rfl, rfl⟩

def flat (ys : List (Int × Int)) : List Value := ys.flatMap fun s => [.int .i64 s.1, .int .i64 s.2]
def kept (ys : List (Int × Int)) : List (Int × Int) := ys.filter fun s => decide (0 < s.2)
/-- What the sort is asked for. -/
def Srt : Prop := ∀ (base g cap : Nat) (ys : List (Int × Int)) (w : World), w.ownsRow base 24 2 (.slice (some ⟨g, 0, none⟩) ys.length cap) ys.length (flat ys) → ys.length ≤ 1024 →
    Calls Try.prog 16 #[.slice (some ⟨g, 0, none⟩) ys.length cap, .func (.func 17) #[] #[]] w fun e w' => e = .returned (.tuple #[]) ∧ ∃ zs : List (Int × Int), zs.Perm ys ∧ zs.Pairwise (fun a b => a.1 ≤ b.1) ∧ Below base w w' ∧ Row w' g 0 zs

/-- A slice value whose elements are the spans. -/
def Sp (w : World) (v : Value) (xs : List (Int × Int)) : Prop :=
  ∃ ao cap, v = .slice ao xs.length cap ∧ (xs = [] ∨ ∃ b off, ao = some ⟨b, off, none⟩ ∧ Row w b off xs)
/-- Numbers of an int's kind. -/
def fits (s : Int × Int) : Prop := s.1 ≤ 9223372036854775807 ∧ s.2 ≤ 9223372036854775807

theorem kept_snoc (xs : List (Int × Int)) (k : Nat) (h : k < xs.length) : kept (xs.take (k + 1)) = if 0 < xs[k].2 then kept (xs.take k) ++ [xs[k]] else kept (xs.take k) := by
  unfold kept
  rw [List.take_succ_eq_append_getElem h, List.filter_append]
  by_cases c : 0 < xs[k].2 <;> simp [c]
theorem kept_le (xs : List (Int × Int)) (k : Nat) : (kept (xs.take k)).length ≤ k := by
  unfold kept
  exact Nat.le_trans (List.length_filter_le _ _) (by simp; omega)

theorem two_at (wr : World) (o1 o2 : Obj) (a b : Value) : ∀ j u, [a, b][j]? = some u → (((wr.alloc o1).alloc o2).alloc (.cells #[a, b] 24)).cell? ((⟨wr.heap.size + 1 + 1, 0, none⟩ : Addr).add j) = some u := by
  have h := cell_two_new ((wr.alloc o1).alloc o2) a b 24
  have e : ((wr.alloc o1).alloc o2).heap.size = wr.heap.size + 1 + 1 := by simp
  rw [e] at h
  exact h
theorem Tables_many (ao : Option Addr) (cap n : Nat) (hn : 1024 < n) (hm : n ≤ maxLen) (w : World) :
    Calls Try.prog 6 #[.slice ao n cap] w fun e w' => e = .returned (.tuple #[.int .i64 0, .int .i64 3]) ∧ w' = w := by
  unfold maxLen at hm
  go_enter Try.func6, Try.ntmps6
  go_wp2_with fail
  go_ret2
  exact ⟨rfl, rfl⟩

def tot (q : Int) (zs : List (Int × Int)) : Int := (tbTo q zs zs.length).1
theorem tot_bd (q : Int) (hq : 1 ≤ q) (zs : List (Int × Int)) (h : ∀ s ∈ zs, okS s) : 0 ≤ tot q zs ∧ tot q zs ≤ 1048576 := by
  have := tb_bd q hq zs h zs.length (Nat.le_refl _)
  unfold tot; omega
def sumT (zs : List (Int × Int)) : Nat → Int
  | 0 => 1
  | 1 => 1 + tot 32 zs
  | 2 => 1 + tot 32 zs + tot 1024 zs
  | _ => 1 + tot 32 zs + tot 1024 zs + tot 32768 zs
theorem Row.below {w w' : World} {b off : Nat} {xs : List (Int × Int)} (h : Row w b off xs) (hb : Below w.heap.size w w') : Row w' b off xs :=
  ⟨Nat.lt_of_lt_of_le h.1 hb.size, fun i hi => ⟨((bcell hb).1 _ _ h.1).trans (h.2 i hi).1, ((bcell hb).1 _ _ h.1).trans (h.2 i hi).2⟩⟩
theorem ok_kept {xs zs : List (Int × Int)} (hv : ∀ s ∈ xs, mayS s = true) (hp : zs.Perm (kept xs)) : ∀ s ∈ zs, okS s := by
  intro s hs
  have h1 := hp.subset hs
  unfold kept at h1
  rw [List.mem_filter] at h1
  have h2 := hv s h1.1
  have h3 := h1.2
  simp [mayS] at h2 h3
  exact ⟨h2.1.1, by omega, h2.2⟩

set_option maxHeartbeats 2000000 in
theorem Tables_all (Hs : Srt) (b off cap : Nat) (xs : List (Int × Int)) (hx : ∀ s ∈ xs, fits s) (hn : xs.length ≤ 1024) (ao : Option Addr) (w : World) (hr : xs = [] ∨ ao = some ⟨b, off, none⟩ ∧ Row w b off xs) (hv : ∀ s ∈ xs, mayS s = true) :
    Calls Try.prog 6 #[.slice ao xs.length cap] w fun e w' => ∃ zs : List (Int × Int), zs.Perm (kept xs) ∧ zs.Pairwise (fun a b => a.1 ≤ b.1) ∧ e = .returned (.tuple #[.int .i64 (1 + tot 32 zs + tot 1024 zs + tot 32768 zs), .int .i64 0]) ∧ Below w.heap.size w w' := by
  obtain ⟨i0, hi, hz0, hz1, hz2⟩ := info_parts Try.infoS
  have Hx : Hid _ := hx
  have Hr : Hid _ := hr
  have Hv : Hid _ := hv
  clear hx hr hv
  go_enter Try.func6, Try.ntmps6
  go_wp2_with (at_make; refine wpList_make_own _ rfl _ _ 22 rfl w.heap.size 24 i0 (.agg #[.int .i64 0, .int .i64 0]) 2 Try.underlying22 hi hz0 hz1 _ _ _ xs.length rfl rfl (by omega) ?b2 ?b3 (Nat.le_refl _) ?_)
  case b2 => rw [hz2]; omega
  case b3 => unfold maxLen; omega
  intro w0 hown0 hgrow0
  go_wp2
  go_loopw [4, 17] (fun v i wr => ∃ k : Nat, k ≤ xs.length ∧ i = .int .i64 k ∧ v = .slice (some ⟨w.heap.size, 0, none⟩) (kept (xs.take k)).length xs.length ∧ wr.ownsRow w.heap.size 24 2 (.slice (some ⟨w.heap.size, 0, none⟩) (kept (xs.take k)).length xs.length) (kept (xs.take k)).length (flat (kept (xs.take k))) ∧ Below w.heap.size w wr) (fun _ i _ => xs.length - (intOf i).toNat)
  case atStart => exact ⟨0, Nat.zero_le _, rfl, rfl, hown0, (Below.refl _ _).grown hgrow0 (Nat.le_refl _) (fun k h => by cases h)⟩
  case round =>
    obtain ⟨k, hk, rfl, rfl, hown, hb⟩ := hrel
    have hkl := kept_le xs k
    by_cases hlt : k < xs.length
    · obtain ⟨rfl, hbk, hc⟩ := (Hr.out).resolve_left (fun h => by rw [h] at hlt; simp at hlt)
      obtain ⟨c1, c2⟩ := hc k hlt
      obtain ⟨hc1, hc2⟩ := bcell hb
      have c1' := (hc1 _ _ hbk).trans c1
      have c2' := (hc1 _ _ hbk).trans c2
      obtain ⟨f1, f2⟩ := Hx.out xs[k] (List.getElem_mem _)
      have hm : mayS (xs[k].1, xs[k].2) = true := Hv.out xs[k] (List.getElem_mem _)
      have HK : Hid _ := kept_snoc xs k hlt
      clear hc1 hc2 c1 c2 hc
      generalize hgp : xs[k].1 = p at *
      generalize hgn : xs[k].2 = n at *
      have HP : Hid _ := hgp
      have HN : Hid _ := hgn
      clear hgp hgn
      by_cases hpos : 0 < n
      · go_wp2_with (first
          | (go_at_call 15; refine (spanMayBe_any _ _ f1 f2 _).mono ?_; rintro e w' ⟨rfl, rfl⟩)
          | (at_builtin; refine wpList_append_fits _ rfl (.tmp 27) (.tmp 29) 22 rfl w.heap.size 24 i0 2 Try.underlying22 hi hz1 w.heap.size _ xs.length _ rfl (((hown.alloc _).alloc _).alloc _) ⟨wr.heap.size + 1 + 1, 0, none⟩ 1 1 [.int .i64 p, .int .i64 n] rfl rfl (two_at wr _ _ _ _) (by intro u hu; simp at hu; rcases hu with rfl | rfl <;> rfl) (by omega) ?_; intro w1 hown1 hgrow1))
        have hE : kept (xs.take (k + 1)) = kept (xs.take k) ++ [(p, n)] := by rw [HK.out, if_pos hpos, ← HP.out, ← HN.out]
        go_roundw
        case rel => exact ⟨k + 1, by omega, by go_num, by rw [hE]; simp, by rw [hE]; simpa [flat] using hown1, (((hb.alloc hb.size _).alloc (by simp; have := hb.size; omega) _).alloc (by simp; have := hb.size; omega) _).grown hgrow1 (by simp; have := hb.size; omega) (fun k hk => by cases hk; exact Nat.le_refl _)⟩
        case measure => simp [intOf]; omega
      · go_wp2_with (go_at_call 15; refine (spanMayBe_any _ _ f1 f2 _).mono ?_; rintro e w' ⟨rfl, rfl⟩)
        have hE : kept (xs.take (k + 1)) = kept (xs.take k) := by rw [HK.out, if_neg (by omega)]
        go_roundw
        case rel => exact ⟨k + 1, by omega, by go_num, by rw [hE], by rw [hE]; exact (hown.alloc _).alloc _, (hb.alloc hb.size _).alloc (by simp; have := hb.size; omega) _⟩
        case measure => simp [intOf]; omega
    · obtain rfl : k = xs.length := by omega
      rw [List.take_length] at hown ⊢
      have hkl2 : (kept xs).length ≤ 1024 := Nat.le_trans (List.length_filter_le _ _) hn
      clear hown0 hgrow0 hkl hlt hk
      go_wp2_with fail
      refine (Hs w.heap.size w.heap.size xs.length (kept xs) wr hown hkl2).mono ?_
      rintro e w1 ⟨rfl, zs, hp, hso, hb1, hrow⟩
      have hok := ok_kept Hv.out hp
      obtain ⟨p1, p2⟩ := tot_bd 32 (by omega) zs hok
      obtain ⟨p3, p4⟩ := tot_bd 1024 (by omega) zs hok
      obtain ⟨p5, p6⟩ := tot_bd 32768 (by omega) zs hok
      have hlz : zs.length ≤ 1048576 := by rw [hp.length_eq]; omega
      have ht0 := fun wx (hbx : Below w1.heap.size w1 wx) => tablesOf_row 0 32 (by omega) (fun a w h h' => tableOf_0 a h h' w) w.heap.size 0 xs.length zs hok hlz wx (hrow.below hbx)
      have ht1 := fun wx (hbx : Below w1.heap.size w1 wx) => tablesOf_row 1 1024 (by omega) (fun a w h h' => tableOf_1 a h h' w) w.heap.size 0 xs.length zs hok hlz wx (hrow.below hbx)
      have ht2 := fun wx (hbx : Below w1.heap.size w1 wx) => tablesOf_row 2 32768 (by omega) (fun a w h h' => tableOf_2 a h h' w) w.heap.size 0 xs.length zs hok hlz wx (hrow.below hbx)
      change ∀ wx, Below w1.heap.size w1 wx → Calls _ _ _ _ (fun e w' => e = .returned (.int .i64 (tot 32 zs)) ∧ _) at ht0
      change ∀ wx, Below w1.heap.size w1 wx → Calls _ _ _ _ (fun e w' => e = .returned (.int .i64 (tot 1024 zs)) ∧ _) at ht1
      change ∀ wx, Below w1.heap.size w1 wx → Calls _ _ _ _ (fun e w' => e = .returned (.int .i64 (tot 32768 zs)) ∧ _) at ht2
      rw [hp.length_eq] at ht0 ht1 ht2
      have H0 : Hid _ := ht0
      have H1 : Hid _ := ht1
      have H2 : Hid _ := ht2
      have HP : Hid _ := hp
      have HB : Hid _ := (hb.trans hb1)
      clear ht0 ht1 ht2 hp hok hlz hrow hown hb hb1
      go_wp2
      go_loopw [7, 8] (fun n l w2 => ∃ j : Nat, j ≤ 3 ∧ l = .int .i64 j ∧ n = .int .i64 (sumT zs j) ∧ Below w1.heap.size w1 w2) (fun _ l _ => 3 - (intOf l).toNat)
      case atStart => exact ⟨0, by omega, rfl, rfl, Below.refl _ _⟩
      case round =>
        obtain ⟨j, hj, rfl, rfl, hb2⟩ := hrel
        rcases (show j = 0 ∨ j = 1 ∨ j = 2 ∨ j = 3 by omega) with rfl | rfl | rfl | rfl
        · have hs : sumT zs 0 = 1 := rfl
          go_wp2_with fail
          refine (H0.out _ hb2).mono ?_
          rintro e w3 ⟨rfl, hb3⟩
          go_wp2_with fail
          go_roundw
          case rel => exact ⟨1, by omega, rfl, rfl, hb2.trans (hb3.mono hb2.size)⟩
          case measure => simp [intOf]
        · have hs : sumT zs 1 = 1 + tot 32 zs := rfl
          go_wp2_with fail
          refine (H1.out _ hb2).mono ?_
          rintro e w3 ⟨rfl, hb3⟩
          go_wp2_with fail
          go_roundw
          case rel => exact ⟨2, by omega, rfl, rfl, hb2.trans (hb3.mono hb2.size)⟩
          case measure => simp [intOf]
        · have hs : sumT zs 2 = 1 + tot 32 zs + tot 1024 zs := rfl
          go_wp2_with fail
          refine (H2.out _ hb2).mono ?_
          rintro e w3 ⟨rfl, hb3⟩
          go_wp2_with fail
          go_roundw
          case rel => exact ⟨3, by omega, rfl, rfl, hb2.trans (hb3.mono hb2.size)⟩
          case measure => simp [intOf]
        · go_wp2
          go_ret2
          exact ⟨zs, HP.out, hso, rfl, HB.out.trans (hb2.mono (HB.out.size))⟩
end Go.Proofs.Ythmcempfiimkkab
