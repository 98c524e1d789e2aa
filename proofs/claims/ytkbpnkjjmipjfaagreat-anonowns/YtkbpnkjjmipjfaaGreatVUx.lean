/- How a row of unsigned words is parted at a pivot: the walk leaves what the plain function makes of the row; no condition but those that each theorem names. -/
import Derived.Test.YtkbpnkjjmipjfaaGreatVUw
import Derived.Deep.CutRange
import Derived.Deep.DeepCutAuto
namespace Go.Proofs.YtkbpnkjjmipjfaaGreat.U
open Go.ChangeShapes Go.WideShapes Go.ChangeAt Go.RowKit
open Go.Sort (swp ltInt PermIn SortedIn)
set_option linter.unusedVariables false
set_option maxRecDepth 8192

theorem up_stop {p : Int → Bool} {x : Array Int} {i j : Nat} (h : j < i ∨ p x[i]! = false) : Go.Sort.scanUp p x j i = i := by
  rw [Go.Sort.scanUp, if_neg]
  rcases h with h | h
  · simp; omega
  · simp [h]
theorem up_go {p : Int → Bool} {x : Array Int} {i j : Nat} (h : i ≤ j) (hp : p x[i]! = true) : Go.Sort.scanUp p x j i = Go.Sort.scanUp p x j (i + 1) := by
  rw [Go.Sort.scanUp, if_pos]
  simp [h, hp]
theorem dn_stop {p : Int → Bool} {x : Array Int} {i j : Nat} (h : j < i ∨ p x[j]! = false) : Go.Sort.scanDown p x i j = j := by
  cases j with
  | zero => rfl
  | succ k =>
    rw [Go.Sort.scanDown, if_neg]
    rcases h with h | h
    · simp; omega
    · simp [h]
theorem dn_go {p : Int → Bool} {x : Array Int} {i j : Nat} (h : i ≤ j) (h1 : 1 ≤ j) (hp : p x[j]! = true) : Go.Sort.scanDown p x i j = Go.Sort.scanDown p x i (j - 1) := by
  cases j with
  | zero => omega
  | succ k =>
    rw [Go.Sort.scanDown, if_pos]
    · rfl
    · simp [h, hp]
theorem part_eq {a i j i2 j2 : Nat} {x : Array Int} (U : Go.Sort.scanUp (fun y => ltInt y x[a]!) x j i = i2) (D : Go.Sort.scanDown (fun y => !ltInt y x[a]!) x i2 j = j2) :
    Go.Sort.partLoop ltInt a i j x = if i2 > j2 then (j2, x) else Go.Sort.partLoop ltInt a (i2 + 1) (j2 - 1) (swp x i2 j2) := by rw [Go.Sort.partLoop_eq, U, D]
set_option maxHeartbeats 4000000 in
theorem partition_any {w0 w : World} {g off m cap a b pivot : Nat} {d : Array Int} (hO : Ou w0 w g off m d) (hap : a ≤ pivot) (hpb : pivot < b) (hb : b ≤ d.size) (hsz : d.size < 1000000) :
    Calls Tryz.prog 206 #[.slice (some ⟨g, off, none⟩) d.size cap, .int .i64 a, .int .i64 b, .int .i64 pivot] w fun e w' => ∃ f : Bool, e = .returned (.tuple #[.int .i64 ((Go.Sort.partition ltInt d a b pivot).1 : Nat), .bool f]) ∧ Ou w0 w' g off m (Go.Sort.partition ltInt d a b pivot).2.2 := by
  rw [Go.Sort.partition_fst, Go.Sort.partition_arr]
  obtain ⟨n, hn⟩ : ∃ n, d.size = n := ⟨_, rfl⟩
  rw [hn] at hb hsz ⊢
  obtain ⟨x, hx⟩ : ∃ x, swp d a pivot = x := ⟨_, rfl⟩
  rw [hx]
  obtain ⟨R, hR⟩ : ∃ R, Go.Sort.partLoop ltInt a (a + 1) (b - 1) x = R := ⟨_, rfl⟩
  rw [hR]
  have HX : Hid (swp d a pivot = x) := hx
  have HR : Hid (Go.Sort.partLoop ltInt a (a + 1) (b - 1) x = R) := hR
  have HO : Hid (Ou w0 w g off m d) := hO
  have HN : Hid (d.size = n) := hn
  have H3 : Hid (x.size = n) := by rw [← hx, Go.Sort.size_swp]; exact hn
  obtain ⟨G, hG⟩ : ∃ G : Nat → Int, ∀ t, G t = d[t]! := ⟨fun t => d[t]!, fun _ => rfl⟩
  have hc : ∀ t, t < n → w.cell? ⟨g, off + t, none⟩ = some (.int .u64 (G t)) := fun t ht => by rw [hG]; exact hO.cell (by omega)
  have hf : ∀ t, t < n → w.frozen? ⟨g, off + t, none⟩ = false := fun t ht => hO.fz _
  have HG : Hid (∀ t, G t = d[t]!) := hG
  have han : a < n := by omega
  have hpn : pivot < n := by omega
  clear hO hn hx hR hG
  go_enter Tryz.func206, Tryz.ntmps206
  go_wp2
  go_cut [9] from 12 (fun z wc => z = .bool false ∧ Ou w0 wc g off m x)
  case first =>
    have XS : Hid (∀ q : Nat, Ou w0 (((w.drewN q).setCell ⟨g, off + a, none⟩ (.int .u64 (G pivot))).setCell ⟨g, off + pivot, none⟩ (.int .u64 (G a))) g off m x) := fun q => by
      rw [← HX.out]
      exact HO.out.swap (by rw [HN.out]; exact han) (by rw [HN.out]; exact hpn) q (HG.out _) (HG.out _)
    by_cases hpa : a = pivot
    · subst hpa
      go_region
      all_goals go_wp2
      all_goals go_meet
      case rel => exact ⟨rfl, XS.out _⟩
    · have hpa2 : a < pivot := by omega
      go_region
      all_goals go_wp2
      all_goals go_meet
      case rel => exact ⟨rfl, XS.out _⟩
  case rest =>
    obtain ⟨rfl, h4⟩ := hcut
    have H4 : Hid (Ou w0 wc g off m x) := h4
    clear h4 HO hc hf HG HX HN
    clear G
    obtain ⟨G, hG⟩ : ∃ G : Nat → Int, ∀ t, G t = x[t]! := ⟨fun t => x[t]!, fun _ => rfl⟩
    have HG : Hid (∀ t, G t = x[t]!) := hG
    clear hG
    obtain ⟨i, hi⟩ : ∃ i : Nat, a + 1 = i := ⟨_, rfl⟩
    obtain ⟨j, hj⟩ : ∃ j : Nat, b - 1 = j := ⟨_, rfl⟩
    have hiI : (a : Int) + 1 = (i : Int) := by omega
    have hjI : (b : Int) - 1 = (j : Int) := by omega
    rw [hi, hj] at HR
    have H5 : Hid (Go.Sort.partLoop ltInt a i j x = R) := HR
    clear HR
    have h1 : a < i := by omega
    have h2 : i ≤ j + 1 := by omega
    have h3 : j < b := by omega
    go_upto_region 2 with fail
    go_cut [10, 11] from 12 (fun z y wc => z = .int .i64 i ∧ y = .int .i64 j ∧ Ou w0 wc g off m x)
    case first =>
      go_wp2
      go_meet
      case rel => exact ⟨rfl, rfl, H4.out⟩
    case rest =>
    clear H4
    obtain ⟨rfl, rfl, h4⟩ := hcut
    have H4 : Hid (Ou w0 wc g off m x) := h4
    clear h4 hi hj hiI hjI
    rename_i K hk
    refine hk _ _ (wp_seq_k ?_)
    clear hk K
    intro K hk
    go_cut [10] from 12 (fun z wc => ∃ i2 : Nat, z = .int .i64 i2 ∧ i ≤ i2 ∧ i2 ≤ j + 1 ∧ Go.Sort.scanUp (fun y => ltInt y x[a]!) x j i = i2 ∧ (i2 ≤ j → ltInt (G i2) (G a) = false) ∧ Ou w0 wc g off m x)
    case first =>
      clear hk
      go_wp2
      go_loopw [10] (fun z wr => ∃ i2 : Nat, z = .int .i64 i2 ∧ i ≤ i2 ∧ i2 ≤ j + 1 ∧ Ou w0 wr g off m x ∧ Go.Sort.scanUp (fun y => ltInt y x[a]!) x j i2 = Go.Sort.scanUp (fun y => ltInt y x[a]!) x j i) (fun z _ => j + 2 - (iv z).toNat)
      case atStart => exact ⟨i, rfl, by omega, by omega, H4.out, rfl⟩
      case round =>
        clear H4
        obtain ⟨i2, rfl, k1, k2, k4, k5⟩ := hrel
        have H4 : Hid (Ou w0 wr g off m x) := k4
        have K5 : Hid (Go.Sort.scanUp (fun y => ltInt y x[a]!) x j i2 = Go.Sort.scanUp (fun y => ltInt y x[a]!) x j i) := k5
        have hc : ∀ t, t < n → wr.cell? ⟨g, off + t, none⟩ = some (.int .u64 (G t)) := fun t ht => by rw [HG.out]; exact k4.cell (by rw [H3.out]; exact ht)
        clear k4 k5
        go_wp2
        by_cases hij : i2 ≤ j
        · have hn2 : i2 < n := by omega
          go_quiet ((go_at_call 204; refine Calls.quiet_of_same (less_any _ _ _)))
          cases hl : ltInt (G i2) (G a)
          · go_wp2
            go_meet
            case rel => exact ⟨i2, rfl, by omega, by omega, (by rw [← K5.out]; exact up_stop (Or.inr (by simp [← HG.out, hl]))), fun _ => hl, H4.out.drewN _⟩
          · go_wp2
            go_roundw
            case rel => exact ⟨i2 + 1, by go_num, by omega, by omega, H4.out.drewN _, by rw [← K5.out]; exact (up_go hij (by simp [← HG.out, hl])).symm⟩
            case measure => simp [iv]; omega
        · have hij2 : j < i2 := by omega
          go_quiet (fail)
          go_wp2
          go_meet
          case rel => exact ⟨i2, rfl, by omega, by omega, (by rw [← K5.out]; exact up_stop (Or.inl hij2)), fun z => by omega, H4.out.drewN _⟩
    case rest =>
      clear H4
      obtain ⟨i2, rfl, hu1, hu2, hu3, hu4, hu5⟩ := hcut
      have U : Hid (Go.Sort.scanUp (fun y => ltInt y x[a]!) x j i = i2) := hu3
      have UF : Hid (i2 ≤ j → ltInt (G i2) (G a) = false) := hu4
      have H4 : Hid (Ou w0 wc g off m x) := hu5
      clear hu3 hu4 hu5
      refine hk _ _ (wp_seq_k ?_)
      clear hk K
      intro K hk
      go_cut [11] from 12 (fun z wc => ∃ j2 : Nat, z = .int .i64 j2 ∧ j2 ≤ j ∧ i2 ≤ j2 + 1 ∧ Go.Sort.scanDown (fun y => !ltInt y x[a]!) x i2 j = j2 ∧ (i2 ≤ j2 → ltInt (G j2) (G a) = true) ∧ Ou w0 wc g off m x)
      case first =>
        clear hk
        go_wp2
        go_loopw [11] (fun z wr => ∃ j2 : Nat, z = .int .i64 j2 ∧ j2 ≤ j ∧ i2 ≤ j2 + 1 ∧ Ou w0 wr g off m x ∧ Go.Sort.scanDown (fun y => !ltInt y x[a]!) x i2 j2 = Go.Sort.scanDown (fun y => !ltInt y x[a]!) x i2 j) (fun z _ => (iv z).toNat)
        case atStart => exact ⟨j, rfl, by omega, by omega, H4.out, rfl⟩
        case round =>
          clear H4
          obtain ⟨j2, rfl, k1, k2, k4, k5⟩ := hrel
          have H4 : Hid (Ou w0 wr g off m x) := k4
          have K5 : Hid (Go.Sort.scanDown (fun y => !ltInt y x[a]!) x i2 j2 = Go.Sort.scanDown (fun y => !ltInt y x[a]!) x i2 j) := k5
          have hc : ∀ t, t < n → wr.cell? ⟨g, off + t, none⟩ = some (.int .u64 (G t)) := fun t ht => by rw [HG.out]; exact k4.cell (by rw [H3.out]; exact ht)
          clear k4 k5
          go_wp2
          by_cases hij : i2 ≤ j2
          · have hn2 : j2 < n := by omega
            go_quiet ((go_at_call 204; refine Calls.quiet_of_same (less_any _ _ _)))
            cases hl : ltInt (G j2) (G a)
            · go_wp2
              go_roundw
              case rel => exact ⟨j2 - 1, by go_num, by omega, by omega, H4.out.drewN _, by rw [← K5.out]; exact (dn_go hij (by omega) (by simp [← HG.out, hl])).symm⟩
              case measure => simp [iv]; omega
            · go_wp2
              go_meet
              case rel => exact ⟨j2, rfl, by omega, by omega, (by rw [← K5.out]; exact dn_stop (Or.inr (by simp [← HG.out, hl]))), fun _ => hl, H4.out.drewN _⟩
          · have hij2 : j2 < i2 := by omega
            go_quiet (fail)
            go_wp2
            go_meet
            case rel => exact ⟨j2, rfl, by omega, by omega, (by rw [← K5.out]; exact dn_stop (Or.inl hij2)), fun z => by omega, H4.out.drewN _⟩
      case rest =>
        clear H4
        obtain ⟨j2, rfl, hd1, hd2, hd3, hd4, hd5⟩ := hcut
        have D : Hid (Go.Sort.scanDown (fun y => !ltInt y x[a]!) x i2 j = j2) := hd3
        have DF : Hid (i2 ≤ j2 → ltInt (G j2) (G a) = true) := hd4
        have H4 : Hid (Ou w0 wc g off m x) := hd5
        have hlt : ¬ j2 < i2 → i2 < j2 := fun z => by
          rcases Nat.lt_or_ge i2 j2 with q | q
          · exact q
          · obtain rfl : i2 = j2 := by omega
            have q1 := UF.out (by omega)
            rw [hd4 (by omega)] at q1
            cases q1
        have hc : ∀ t, t < n → wc.cell? ⟨g, off + t, none⟩ = some (.int .u64 (G t)) := fun t ht => by rw [HG.out]; exact hd5.cell (by rw [H3.out]; exact ht)
        have hf : ∀ t, t < n → wc.frozen? ⟨g, off + t, none⟩ = false := fun t ht => hd5.fz _
        clear hd3 hd4 hd5 UF DF
        refine hk _ _ ?_
        clear hk K
        by_cases hgt : j2 < i2
        · have E5 : Hid (R = (j2, x)) := (by rw [← H5.out, part_eq U.out D.out, if_pos hgt] : R = (j2, x))
          have hj2 : j2 < n := by omega
          have XS : Hid (∀ q : Nat, Ou w0 (((wc.drewN q).setCell ⟨g, off + j2, none⟩ (.int .u64 (G a))).setCell ⟨g, off + a, none⟩ (.int .u64 (G j2))) g off m (swp R.2 R.1 a)) := fun q => by
            rw [E5.out]
            exact H4.out.swap (by rw [H3.out]; exact hj2) (by rw [H3.out]; exact han) q (HG.out _) (HG.out _)
          have E1 : Hid (R.1 = j2) := (by rw [E5.out] : R.1 = j2)
          go_wp2
          by_cases hja : a = j2
          · subst hja
            go_region
            all_goals go_wp2
            all_goals go_ret2
            exact ⟨true, by rw [E1.out]; rfl, XS.out _⟩
          · have hja2 : a < j2 := by omega
            go_region
            all_goals go_wp2
            all_goals go_ret2
            exact ⟨true, by rw [E1.out]; rfl, XS.out _⟩
        · have hij3 := hlt hgt
          have hn2 : i2 < n := by omega
          have hn3 : j2 < n := by omega
          have H6 : Hid (Go.Sort.partLoop ltInt a (i2 + 1) (j2 - 1) (swp x i2 j2) = R) := by
            have := part_eq U.out D.out
            rw [if_neg (by omega)] at this
            rw [← this]
            exact H5.out
          have XS : Hid (∀ q : Nat, Ou w0 (((wc.drewN q).setCell ⟨g, off + i2, none⟩ (.int .u64 (G j2))).setCell ⟨g, off + j2, none⟩ (.int .u64 (G i2))) g off m (swp x i2 j2)) := fun q => H4.out.swap (by rw [H3.out]; exact hn2) (by rw [H3.out]; exact hn3) q (HG.out _) (HG.out _)
          have S3 : Hid ((swp x i2 j2).size = n) := by
            have := H3.out
            show (swp x i2 j2).size = n
            rw [Go.Sort.size_swp]
            exact this
          clear H4 H5 U D HG H3
          go_wp2
          go_region
          all_goals go_wp2
          clear hc hf
          go_loopw [10, 11] (fun z y wr => ∃ (i j : Nat) (x : Array Int), z = .int .i64 i ∧ y = .int .i64 j ∧ a < i ∧ i ≤ j + 1 ∧ j < b ∧ x.size = n ∧ Ou w0 wr g off m x ∧ Go.Sort.partLoop ltInt a i j x = R) (fun z y _ => (iv y).toNat + 1 - (iv z).toNat)
          case atStart => exact ⟨i2 + 1, j2 - 1, _, by go_num, by go_num, by omega, by omega, by omega, S3.out, XS.out _, H6.out⟩
          case round =>
            clear XS H6 S3
            clear hij3 hn2 hn3 hgt hlt hd1 hd2 hu1 hu2 h1 h2 h3
            obtain ⟨i, j, x, rfl, rfl, h1, h2, h3, h3', h4, h5⟩ := hrel
            have H3 : Hid (x.size = n) := h3'
            have H4 : Hid (Ou w0 wr g off m x) := h4
            have H5 : Hid (Go.Sort.partLoop ltInt a i j x = R) := h5
            clear h3' h4 h5
            obtain ⟨G, hG⟩ : ∃ G : Nat → Int, ∀ t, G t = x[t]! := ⟨fun t => x[t]!, fun _ => rfl⟩
            have HG : Hid (∀ t, G t = x[t]!) := hG
            clear hG
            refine wp_block (wp_seq_k ?_)
            intro K hk
            go_cut [10] from 99 to 152 (fun z wc => ∃ i2 : Nat, z = .int .i64 i2 ∧ i ≤ i2 ∧ i2 ≤ j + 1 ∧ Go.Sort.scanUp (fun y => ltInt y x[a]!) x j i = i2 ∧ (i2 ≤ j → ltInt (G i2) (G a) = false) ∧ Ou w0 wc g off m x)
            case first =>
              clear hk
              go_wp2
              go_loopw [10] (fun z wr => ∃ i2 : Nat, z = .int .i64 i2 ∧ i ≤ i2 ∧ i2 ≤ j + 1 ∧ Ou w0 wr g off m x ∧ Go.Sort.scanUp (fun y => ltInt y x[a]!) x j i2 = Go.Sort.scanUp (fun y => ltInt y x[a]!) x j i) (fun z _ => j + 2 - (iv z).toNat)
              case atStart => exact ⟨i, rfl, by omega, by omega, H4.out, rfl⟩
              case round =>
                clear H4
                obtain ⟨i2, rfl, k1, k2, k4, k5⟩ := hrel
                have H4 : Hid (Ou w0 wr g off m x) := k4
                have K5 : Hid (Go.Sort.scanUp (fun y => ltInt y x[a]!) x j i2 = Go.Sort.scanUp (fun y => ltInt y x[a]!) x j i) := k5
                have hc : ∀ t, t < n → wr.cell? ⟨g, off + t, none⟩ = some (.int .u64 (G t)) := fun t ht => by rw [HG.out]; exact k4.cell (by rw [H3.out]; exact ht)
                clear k4 k5
                go_wp2
                by_cases hij : i2 ≤ j
                · have hn2 : i2 < n := by omega
                  go_quiet ((go_at_call 204; refine Calls.quiet_of_same (less_any _ _ _)))
                  cases hl : ltInt (G i2) (G a)
                  · go_wp2
                    go_meet
                    case rel => exact ⟨i2, rfl, by omega, by omega, (by rw [← K5.out]; exact up_stop (Or.inr (by simp [← HG.out, hl]))), fun _ => hl, H4.out.drewN _⟩
                  · go_wp2
                    go_roundw
                    case rel => exact ⟨i2 + 1, by go_num, by omega, by omega, H4.out.drewN _, by rw [← K5.out]; exact (up_go hij (by simp [← HG.out, hl])).symm⟩
                    case measure => simp [iv]; omega
                · have hij2 : j < i2 := by omega
                  go_quiet (fail)
                  go_wp2
                  go_meet
                  case rel => exact ⟨i2, rfl, by omega, by omega, (by rw [← K5.out]; exact up_stop (Or.inl hij2)), fun z => by omega, H4.out.drewN _⟩
            case rest =>
              clear H4
              obtain ⟨i2, rfl, hu1, hu2, hu3, hu4, hu5⟩ := hcut
              have U : Hid (Go.Sort.scanUp (fun y => ltInt y x[a]!) x j i = i2) := hu3
              have UF : Hid (i2 ≤ j → ltInt (G i2) (G a) = false) := hu4
              have H4 : Hid (Ou w0 wc g off m x) := hu5
              clear hu3 hu4 hu5
              refine hk _ _ (wp_seq_k ?_)
              clear hk K
              intro K hk
              go_cut [11] from 99 to 152 (fun z wc => ∃ j2 : Nat, z = .int .i64 j2 ∧ j2 ≤ j ∧ i2 ≤ j2 + 1 ∧ Go.Sort.scanDown (fun y => !ltInt y x[a]!) x i2 j = j2 ∧ (i2 ≤ j2 → ltInt (G j2) (G a) = true) ∧ Ou w0 wc g off m x)
              case first =>
                clear hk
                go_wp2
                go_loopw [11] (fun z wr => ∃ j2 : Nat, z = .int .i64 j2 ∧ j2 ≤ j ∧ i2 ≤ j2 + 1 ∧ Ou w0 wr g off m x ∧ Go.Sort.scanDown (fun y => !ltInt y x[a]!) x i2 j2 = Go.Sort.scanDown (fun y => !ltInt y x[a]!) x i2 j) (fun z _ => (iv z).toNat)
                case atStart => exact ⟨j, rfl, by omega, by omega, H4.out, rfl⟩
                case round =>
                  clear H4
                  obtain ⟨j2, rfl, k1, k2, k4, k5⟩ := hrel
                  have H4 : Hid (Ou w0 wr g off m x) := k4
                  have K5 : Hid (Go.Sort.scanDown (fun y => !ltInt y x[a]!) x i2 j2 = Go.Sort.scanDown (fun y => !ltInt y x[a]!) x i2 j) := k5
                  have hc : ∀ t, t < n → wr.cell? ⟨g, off + t, none⟩ = some (.int .u64 (G t)) := fun t ht => by rw [HG.out]; exact k4.cell (by rw [H3.out]; exact ht)
                  clear k4 k5
                  go_wp2
                  by_cases hij : i2 ≤ j2
                  · have hn2 : j2 < n := by omega
                    go_quiet ((go_at_call 204; refine Calls.quiet_of_same (less_any _ _ _)))
                    cases hl : ltInt (G j2) (G a)
                    · go_wp2
                      go_roundw
                      case rel => exact ⟨j2 - 1, by go_num, by omega, by omega, H4.out.drewN _, by rw [← K5.out]; exact (dn_go hij (by omega) (by simp [← HG.out, hl])).symm⟩
                      case measure => simp [iv]; omega
                    · go_wp2
                      go_meet
                      case rel => exact ⟨j2, rfl, by omega, by omega, (by rw [← K5.out]; exact dn_stop (Or.inr (by simp [← HG.out, hl]))), fun _ => hl, H4.out.drewN _⟩
                  · have hij2 : j2 < i2 := by omega
                    go_quiet (fail)
                    go_wp2
                    go_meet
                    case rel => exact ⟨j2, rfl, by omega, by omega, (by rw [← K5.out]; exact dn_stop (Or.inl hij2)), fun z => by omega, H4.out.drewN _⟩
              case rest =>
                clear H4
                obtain ⟨j2, rfl, hd1, hd2, hd3, hd4, hd5⟩ := hcut
                have D : Hid (Go.Sort.scanDown (fun y => !ltInt y x[a]!) x i2 j = j2) := hd3
                have DF : Hid (i2 ≤ j2 → ltInt (G j2) (G a) = true) := hd4
                have H4 : Hid (Ou w0 wc g off m x) := hd5
                have hlt : ¬ j2 < i2 → i2 < j2 := fun z => by
                  rcases Nat.lt_or_ge i2 j2 with q | q
                  · exact q
                  · obtain rfl : i2 = j2 := by omega
                    have q1 := UF.out (by omega)
                    rw [hd4 (by omega)] at q1
                    cases q1
                have hc : ∀ t, t < n → wc.cell? ⟨g, off + t, none⟩ = some (.int .u64 (G t)) := fun t ht => by rw [HG.out]; exact hd5.cell (by rw [H3.out]; exact ht)
                have hf : ∀ t, t < n → wc.frozen? ⟨g, off + t, none⟩ = false := fun t ht => hd5.fz _
                clear hd3 hd4 hd5 UF DF
                refine hk _ _ ?_
                clear hk K
                by_cases hgt : j2 < i2
                · have E5 : Hid (R = (j2, x)) := (by rw [← H5.out, part_eq U.out D.out, if_pos hgt] : R = (j2, x))
                  have hj2 : j2 < n := by omega
                  have XS : Hid (∀ q : Nat, Ou w0 (((wc.drewN q).setCell ⟨g, off + j2, none⟩ (.int .u64 (G a))).setCell ⟨g, off + a, none⟩ (.int .u64 (G j2))) g off m (swp R.2 R.1 a)) := fun q => by
                    rw [E5.out]
                    exact H4.out.swap (by rw [H3.out]; exact hj2) (by rw [H3.out]; exact han) q (HG.out _) (HG.out _)
                  have E1 : Hid (R.1 = j2) := (by rw [E5.out] : R.1 = j2)
                  go_wp2
                  by_cases hja : a = j2
                  · subst hja
                    go_region
                    all_goals go_wp2
                    all_goals go_ret2
                    exact ⟨false, by rw [E1.out]; rfl, XS.out _⟩
                  · have hja2 : a < j2 := by omega
                    go_region
                    all_goals go_wp2
                    all_goals go_ret2
                    exact ⟨false, by rw [E1.out]; rfl, XS.out _⟩
                · have hij3 := hlt hgt
                  have hn2 : i2 < n := by omega
                  have hn3 : j2 < n := by omega
                  have H6 : Hid (Go.Sort.partLoop ltInt a (i2 + 1) (j2 - 1) (swp x i2 j2) = R) := by
                    have := part_eq U.out D.out
                    rw [if_neg (by omega)] at this
                    rw [← this]
                    exact H5.out
                  go_wp2
                  go_region
                  all_goals go_wp2
                  go_roundw
                  case rel => exact ⟨i2 + 1, j2 - 1, _, by go_num, by go_num, by omega, by omega, by omega, (by rw [Go.Sort.size_swp]; exact H3.out), H4.out.swap (by rw [H3.out]; exact hn2) (by rw [H3.out]; exact hn3) _ (HG.out _) (HG.out _), H6.out⟩
                  case measure => simp [iv]; omega
end Go.Proofs.YtkbpnkjjmipjfaaGreat.U
namespace Go.Proofs.YtkbpnkjjmipjfaaGreat.U
open Go.ChangeShapes Go.WideShapes Go.ChangeAt Go.RowKit
open Go.Sort (swp ltInt PermIn SortedIn)
set_option linter.unusedVariables false
set_option maxRecDepth 8192

theorem parteq_eq {a i j i2 j2 : Nat} {x : Array Int} (U : Go.Sort.scanUp (fun y => !ltInt x[a]! y) x j i = i2) (D : Go.Sort.scanDown (fun y => ltInt x[a]! y) x i2 j = j2) :
    Go.Sort.partEqLoop ltInt a i j x = if i2 > j2 then (i2, x) else Go.Sort.partEqLoop ltInt a (i2 + 1) (j2 - 1) (swp x i2 j2) := by rw [Go.Sort.partEqLoop_eq, U, D]
set_option maxHeartbeats 4000000 in
theorem partEqual_any {w0 w : World} {g off m cap a b pivot : Nat} {d : Array Int} (hO : Ou w0 w g off m d) (hap : a ≤ pivot) (hpb : pivot < b) (hb : b ≤ d.size) (hsz : d.size < 1000000) :
    Calls Tryz.prog 205 #[.slice (some ⟨g, off, none⟩) d.size cap, .int .i64 a, .int .i64 b, .int .i64 pivot] w fun e w' => e = .returned (.int .i64 ((Go.Sort.partitionEqual ltInt d a b pivot).1 : Nat)) ∧ Ou w0 w' g off m (Go.Sort.partitionEqual ltInt d a b pivot).2 := by
  unfold Go.Sort.partitionEqual
  obtain ⟨n, hn⟩ : ∃ n, d.size = n := ⟨_, rfl⟩
  rw [hn] at hb hsz ⊢
  obtain ⟨x, hx⟩ : ∃ x, swp d a pivot = x := ⟨_, rfl⟩
  rw [hx]
  obtain ⟨R, hR⟩ : ∃ R, Go.Sort.partEqLoop ltInt a (a + 1) (b - 1) x = R := ⟨_, rfl⟩
  rw [hR]
  have HX : Hid (swp d a pivot = x) := hx
  have HR : Hid (Go.Sort.partEqLoop ltInt a (a + 1) (b - 1) x = R) := hR
  have HO : Hid (Ou w0 w g off m d) := hO
  have HN : Hid (d.size = n) := hn
  have H3 : Hid (x.size = n) := by rw [← hx, Go.Sort.size_swp]; exact hn
  obtain ⟨G, hG⟩ : ∃ G : Nat → Int, ∀ t, G t = d[t]! := ⟨fun t => d[t]!, fun _ => rfl⟩
  have hc : ∀ t, t < n → w.cell? ⟨g, off + t, none⟩ = some (.int .u64 (G t)) := fun t ht => by rw [hG]; exact hO.cell (by omega)
  have hf : ∀ t, t < n → w.frozen? ⟨g, off + t, none⟩ = false := fun t ht => hO.fz _
  have HG : Hid (∀ t, G t = d[t]!) := hG
  have han : a < n := by omega
  have hpn : pivot < n := by omega
  clear hO hn hx hR hG
  go_enter Tryz.func205, Tryz.ntmps205
  go_wp2
  go_cut [8] from 11 (fun z wc => z = .int .i64 0 ∧ Ou w0 wc g off m x)
  case first =>
    have XS : Hid (∀ q : Nat, Ou w0 (((w.drewN q).setCell ⟨g, off + a, none⟩ (.int .u64 (G pivot))).setCell ⟨g, off + pivot, none⟩ (.int .u64 (G a))) g off m x) := fun q => by
      rw [← HX.out]
      exact HO.out.swap (by rw [HN.out]; exact han) (by rw [HN.out]; exact hpn) q (HG.out _) (HG.out _)
    by_cases hpa : a = pivot
    · subst hpa
      go_region
      all_goals go_wp2
      all_goals go_meet
      case rel => exact ⟨rfl, XS.out _⟩
    · have hpa2 : a < pivot := by omega
      go_region
      all_goals go_wp2
      all_goals go_meet
      case rel => exact ⟨rfl, XS.out _⟩
  case rest =>
    obtain ⟨rfl, h4⟩ := hcut
    have H4 : Hid (Ou w0 wc g off m x) := h4
    clear h4 HO hc hf HG HX HN
    clear G
    go_wp2
    go_loopw [9, 10] (fun z y wr => ∃ (i j : Nat) (x : Array Int), z = .int .i64 i ∧ y = .int .i64 j ∧ a < i ∧ i ≤ j + 1 ∧ j < b ∧ x.size = n ∧ Ou w0 wr g off m x ∧ Go.Sort.partEqLoop ltInt a i j x = R) (fun z y _ => (iv y).toNat + 1 - (iv z).toNat)
    case atStart => exact ⟨a + 1, b - 1, x, by go_num, by go_num, by omega, by omega, by omega, H3.out, H4.out, HR.out⟩
    case round =>
      clear H3 H4 HR
      obtain ⟨i, j, x, rfl, rfl, h1, h2, h3, h3', h4, h5⟩ := hrel
      have H3 : Hid (x.size = n) := h3'
      have H4 : Hid (Ou w0 wr g off m x) := h4
      have H5 : Hid (Go.Sort.partEqLoop ltInt a i j x = R) := h5
      clear h3' h4 h5
      obtain ⟨G, hG⟩ : ∃ G : Nat → Int, ∀ t, G t = x[t]! := ⟨fun t => x[t]!, fun _ => rfl⟩
      have HG : Hid (∀ t, G t = x[t]!) := hG
      clear hG
      refine wp_block (wp_seq_k ?_)
      intro K hk
      go_cut [9] from 29 to 82 (fun z wc => ∃ i2 : Nat, z = .int .i64 i2 ∧ i ≤ i2 ∧ i2 ≤ j + 1 ∧ Go.Sort.scanUp (fun y => !ltInt x[a]! y) x j i = i2 ∧ (i2 ≤ j → ltInt (G a) (G i2) = true) ∧ Ou w0 wc g off m x)
      case first =>
        clear hk
        go_wp2
        go_loopw [9] (fun z wr => ∃ i2 : Nat, z = .int .i64 i2 ∧ i ≤ i2 ∧ i2 ≤ j + 1 ∧ Ou w0 wr g off m x ∧ Go.Sort.scanUp (fun y => !ltInt x[a]! y) x j i2 = Go.Sort.scanUp (fun y => !ltInt x[a]! y) x j i) (fun z _ => j + 2 - (iv z).toNat)
        case atStart => exact ⟨i, rfl, by omega, by omega, H4.out, rfl⟩
        case round =>
          clear H4
          obtain ⟨i2, rfl, k1, k2, k4, k5⟩ := hrel
          have H4 : Hid (Ou w0 wr g off m x) := k4
          have K5 : Hid (Go.Sort.scanUp (fun y => !ltInt x[a]! y) x j i2 = Go.Sort.scanUp (fun y => !ltInt x[a]! y) x j i) := k5
          have hc : ∀ t, t < n → wr.cell? ⟨g, off + t, none⟩ = some (.int .u64 (G t)) := fun t ht => by rw [HG.out]; exact k4.cell (by rw [H3.out]; exact ht)
          clear k4 k5
          go_wp2
          by_cases hij : i2 ≤ j
          · have hn2 : i2 < n := by omega
            go_quiet ((go_at_call 204; refine Calls.quiet_of_same (less_any _ _ _)))
            cases hl : ltInt (G a) (G i2)
            · go_wp2
              go_roundw
              case rel => exact ⟨i2 + 1, by go_num, by omega, by omega, H4.out.drewN _, by rw [← K5.out]; exact (up_go hij (by simp [← HG.out, hl])).symm⟩
              case measure => simp [iv]; omega
            · go_wp2
              go_meet
              case rel => exact ⟨i2, rfl, by omega, by omega, (by rw [← K5.out]; exact up_stop (Or.inr (by simp [← HG.out, hl]))), fun _ => hl, H4.out.drewN _⟩
          · have hij2 : j < i2 := by omega
            go_quiet (fail)
            go_wp2
            go_meet
            case rel => exact ⟨i2, rfl, by omega, by omega, (by rw [← K5.out]; exact up_stop (Or.inl hij2)), fun z => by omega, H4.out.drewN _⟩
      case rest =>
        clear H4
        obtain ⟨i2, rfl, hu1, hu2, hu3, hu4, hu5⟩ := hcut
        have U : Hid (Go.Sort.scanUp (fun y => !ltInt x[a]! y) x j i = i2) := hu3
        have UF : Hid (i2 ≤ j → ltInt (G a) (G i2) = true) := hu4
        have H4 : Hid (Ou w0 wc g off m x) := hu5
        clear hu3 hu4 hu5
        refine hk _ _ (wp_seq_k ?_)
        clear hk K
        intro K hk
        go_cut [10] from 29 to 82 (fun z wc => ∃ j2 : Nat, z = .int .i64 j2 ∧ j2 ≤ j ∧ i2 ≤ j2 + 1 ∧ Go.Sort.scanDown (fun y => ltInt x[a]! y) x i2 j = j2 ∧ (i2 ≤ j2 → ltInt (G a) (G j2) = false) ∧ Ou w0 wc g off m x)
        case first =>
          clear hk
          go_wp2
          go_loopw [10] (fun z wr => ∃ j2 : Nat, z = .int .i64 j2 ∧ j2 ≤ j ∧ i2 ≤ j2 + 1 ∧ Ou w0 wr g off m x ∧ Go.Sort.scanDown (fun y => ltInt x[a]! y) x i2 j2 = Go.Sort.scanDown (fun y => ltInt x[a]! y) x i2 j) (fun z _ => (iv z).toNat)
          case atStart => exact ⟨j, rfl, by omega, by omega, H4.out, rfl⟩
          case round =>
            clear H4
            obtain ⟨j2, rfl, k1, k2, k4, k5⟩ := hrel
            have H4 : Hid (Ou w0 wr g off m x) := k4
            have K5 : Hid (Go.Sort.scanDown (fun y => ltInt x[a]! y) x i2 j2 = Go.Sort.scanDown (fun y => ltInt x[a]! y) x i2 j) := k5
            have hc : ∀ t, t < n → wr.cell? ⟨g, off + t, none⟩ = some (.int .u64 (G t)) := fun t ht => by rw [HG.out]; exact k4.cell (by rw [H3.out]; exact ht)
            clear k4 k5
            go_wp2
            by_cases hij : i2 ≤ j2
            · have hn2 : j2 < n := by omega
              go_quiet ((go_at_call 204; refine Calls.quiet_of_same (less_any _ _ _)))
              cases hl : ltInt (G a) (G j2)
              · go_wp2
                go_meet
                case rel => exact ⟨j2, rfl, by omega, by omega, (by rw [← K5.out]; exact dn_stop (Or.inr (by simp [← HG.out, hl]))), fun _ => hl, H4.out.drewN _⟩
              · go_wp2
                go_roundw
                case rel => exact ⟨j2 - 1, by go_num, by omega, by omega, H4.out.drewN _, by rw [← K5.out]; exact (dn_go hij (by omega) (by simp [← HG.out, hl])).symm⟩
                case measure => simp [iv]; omega
            · have hij2 : j2 < i2 := by omega
              go_quiet (fail)
              go_wp2
              go_meet
              case rel => exact ⟨j2, rfl, by omega, by omega, (by rw [← K5.out]; exact dn_stop (Or.inl hij2)), fun z => by omega, H4.out.drewN _⟩
        case rest =>
          clear H4
          obtain ⟨j2, rfl, hd1, hd2, hd3, hd4, hd5⟩ := hcut
          have D : Hid (Go.Sort.scanDown (fun y => ltInt x[a]! y) x i2 j = j2) := hd3
          have DF : Hid (i2 ≤ j2 → ltInt (G a) (G j2) = false) := hd4
          have H4 : Hid (Ou w0 wc g off m x) := hd5
          have hlt : ¬ j2 < i2 → i2 < j2 := fun z => by
            rcases Nat.lt_or_ge i2 j2 with q | q
            · exact q
            · obtain rfl : i2 = j2 := by omega
              have q1 := UF.out (by omega)
              rw [hd4 (by omega)] at q1
              cases q1
          have hc : ∀ t, t < n → wc.cell? ⟨g, off + t, none⟩ = some (.int .u64 (G t)) := fun t ht => by rw [HG.out]; exact hd5.cell (by rw [H3.out]; exact ht)
          have hf : ∀ t, t < n → wc.frozen? ⟨g, off + t, none⟩ = false := fun t ht => hd5.fz _
          clear hd3 hd4 hd5 UF DF
          refine hk _ _ ?_
          clear hk K
          by_cases hgt : j2 < i2
          · have E5 : Hid (R = (i2, x)) := (by rw [← H5.out, parteq_eq U.out D.out, if_pos hgt] : R = (i2, x))
            go_wp2
            go_ret
            refine ⟨?_, ?_⟩
            · rw [E5.out]; rfl
            · rw [E5.out]; exact H4.out
          · have hij3 := hlt hgt
            have hn2 : i2 < n := by omega
            have hn3 : j2 < n := by omega
            have H6 : Hid (Go.Sort.partEqLoop ltInt a (i2 + 1) (j2 - 1) (swp x i2 j2) = R) := by
              have := parteq_eq U.out D.out
              rw [if_neg (by omega)] at this
              rw [← this]
              exact H5.out
            go_wp2
            go_region
            all_goals go_wp2
            go_roundw
            case rel => exact ⟨i2 + 1, j2 - 1, _, by go_num, by go_num, by omega, by omega, by omega, (by rw [Go.Sort.size_swp]; exact H3.out), H4.out.swap (by rw [H3.out]; exact hn2) (by rw [H3.out]; exact hn3) _ (HG.out _) (HG.out _), H6.out⟩
            case measure => simp [iv]; omega
end Go.Proofs.YtkbpnkjjmipjfaaGreat.U
