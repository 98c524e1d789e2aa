/- What Count, Lines and Flush of package cache give back and write. -/
import Derived.Test.YtpedgpaebdoafaaTc
namespace Go.Proofs.Ytpedgpaebdoafaa
open Go.ChangeShapes Go.WideShapes Go.ChangeAt Go.RowKit
set_option linter.unusedVariables false

def cnt (f : Nat → List Int) : Nat → Nat
  | 0 => 0
  | n + 1 => cnt f n + (f n).length
def lns (f : Nat → List Int) : Nat → List (Nat × Int)
  | 0 => []
  | n + 1 => lns f n ++ (f n).map (fun t => (n, t))
def lv (l : List (Nat × Int)) : List Value := l.flatMap fun x => [.int .i64 x.1, .int .u64 x.2]
theorem lns_len (f : Nat → List Int) : ∀ n, (lns f n).length = cnt f n
  | 0 => rfl
  | n + 1 => by simp [lns, cnt, lns_len f n]
theorem lv_len : ∀ l : List (Nat × Int), (lv l).length = l.length * 2
  | [] => rfl
  | x :: l => by
    have := lv_len l
    simp only [lv, List.flatMap_cons, List.length_append, List.length_cons, List.length_nil] at this ⊢
    omega
theorem lv_app (a b : List (Nat × Int)) : lv (a ++ b) = lv a ++ lv b := by simp [lv]
theorem cnt_le {f : Nat → List Int} : ∀ {n : Nat}, (∀ i, i < n → (f i).length ≤ 16) → cnt f n ≤ n * 16
  | 0, _ => Nat.le_refl _
  | n + 1, h => by
    have h1 := cnt_le (n := n) (fun i hi => h i (by omega))
    have h2 := h n (by omega)
    simp only [cnt]
    omega
theorem cnt_mono (f : Nat → List Int) {k n : Nat} (h : k ≤ n) : cnt f k ≤ cnt f n := by
  induction n with
  | zero => obtain rfl : k = 0 := by omega
            exact Nat.le_refl _
  | succ n ih =>
    by_cases e : k = n + 1
    · rw [e]; exact Nat.le_refl _
    · have := ih (by omega)
      simp only [cnt]
      omega
theorem Cch.cnt {w : World} {p b n ways : Nat} {V : Nat → Value} {f : Nat → List Int} (h : Cch w p b n ways V f) (k : Nat) (hk : k ≤ n) : cnt f k ≤ 65536 := by
  have h1 := cnt_mono f hk
  have h2 := cnt_le (f := f) (n := n) (fun i hi => Nat.le_trans (h.len i hi) h.w16)
  have h3 := h.n4
  omega
theorem Count_c {w : World} {p b n ways : Nat} {V : Nat → Value} {f : Nat → List Int} (hM : Cch w p b n ways V f) :
    Calls Try.prog 18 #[.pointer (some ⟨p, 0, none⟩)] w fun e w' => e = .returned (.int .i64 (cnt f n)) ∧ w' = w := by
  have hc := hM.c1
  have h4 := hM.n4
  have HM : Hid (Cch w p b n ways V f) := hM
  clear hM
  go_enter Try.func18, Try.ntmps18
  go_wp2_with fail
  refine (made_any HM.out).mono ?_
  rintro e w' ⟨rfl, rfl⟩
  go_wp2_with fail
  go_loop [3, 14] (fun s i => ∃ k : Nat, k ≤ n ∧ i = .int .i64 k ∧ s = .int .i64 (cnt f k)) (fun _ i => n - (intOf i).toNat)
  case atStart => exact ⟨0, by omega, rfl, rfl⟩
  case round =>
    obtain ⟨k, hk, rfl, rfl⟩ := hrel
    by_cases hlt : k < n
    · have hr := HM.out.row k hlt
      obtain ⟨a, cap, hv⟩ := (HM.out.own k hlt).len
      rw [hv] at hr
      have b1 := HM.out.cnt (k + 1) (by omega)
      have HE : Hid (Proofs.Ytpedgpaebdoafaa.cnt f (k + 1) = Proofs.Ytpedgpaebdoafaa.cnt f k + (f k).length) := rfl
      rw [HE.out] at b1
      generalize (f k).length = m at *
      generalize Proofs.Ytpedgpaebdoafaa.cnt f k = c at *
      go_wp2
      go_round
      case rel => exact ⟨k + 1, by omega, by go_num, by rw [HE.out]; go_num⟩
      case measure => simp [intOf]; omega
    · obtain rfl : k = n := by omega
      go_wp2
      go_ret
      exact ⟨rfl, rfl⟩
theorem Count_ok {w : World} {F : Nat → Prop} {p n ways : Nat} {f : Nat → List Int} (h : Ca w F p n ways f) :
    Calls Try.prog 18 #[.pointer (some ⟨p, 0, none⟩)] w fun e w' => e = .returned (.int .i64 (cnt f n)) ∧ w' = w := by
  obtain ⟨b, V, hP⟩ := h.parts
  exact Count_c hP.c
theorem Count_nil {w : World} {q : Option Addr} (hN : NoC w q) :
    Calls Try.prog 18 #[.pointer q] w fun e w' => e = .returned (.int .i64 0) ∧ w' = w := by
  go_enter Try.func18, Try.ntmps18
  go_wp2_with fail
  refine (made_nil hN).mono ?_
  rintro e w' ⟨rfl, rfl⟩
  go_wp2
  go_ret
  exact ⟨rfl, rfl⟩
theorem Flush_nil {w : World} {q : Option Addr} (hN : NoC w q) :
    Calls Try.prog 17 #[.pointer q] w fun e w' => e = .returned (.tuple #[.int .i64 0, .int .i64 1]) ∧ w' = w := by
  go_enter Try.func17, Try.ntmps17
  go_wp2_with fail
  refine (made_nil hN).mono ?_
  rintro e w' ⟨rfl, rfl⟩
  go_wp2
  go_ret2
  exact ⟨rfl, rfl⟩
theorem Lines_nil {w : World} {q : Option Addr} (hN : NoC w q) :
    Calls Try.prog 19 #[.pointer q] w fun e w' => e = .returned (.slice none 0 0) ∧ w' = w := by
  go_enter Try.func19, Try.ntmps19
  go_wp2_with fail
  refine (made_nil hN).mono ?_
  rintro e w' ⟨rfl, rfl⟩
  go_wp2
  go_ret
  exact ⟨rfl, rfl⟩
theorem Try.zeroS : (Try.prog.info? 37).map (fun i => (i.zero, i.size)) = some (some (.slice none 0 0), 1) := by kernel_rfl
/-- What a flush leaves. -/
def Flu (w : World) (F : Nat → Prop) (p n ways : Nat) (w' : World) : Prop := ∃ F', Ca w' F' p n ways (fun _ => []) ∧ Kp F F' w w'
theorem Pt.cleared {w w' : World} {F : Nat → Prop} {p b n ways : Nat} {V : Nat → Value} {f : Nat → List Int} (h : Pt w F p b n ways V f) (e : w' = w.setCells b 0 (List.replicate n (.slice none 0 0))) : Flu w F p n ways w' := by
  have G : w.grownBy w' (some b) := by rw [e]; exact grown_setCells _ _ _ _
  have ep : w'.heap[p]? = w.heap[p]? := G.block p h.c.lt (some_ne h.c.ne)
  refine ⟨F, ⟨fun k hk => Nat.lt_of_lt_of_le (h.lt k hk) G.size, b, fun _ => .slice none 0 0, ?_, h.fp, h.fb, fun i g _ hg => by cases hg⟩, Kp.of_grown G (fun g hg => by cases hg; exact h.fb) (fun k hk => Or.inl hk)⟩
  exact ⟨Nat.lt_of_lt_of_le h.c.lt G.size, (World.cell?_of_block (w := w) (a := ⟨p, 0, none⟩) ep).trans h.c.c0, (World.cell?_of_block (w := w) (a := ⟨p, 1, none⟩) ep).trans h.c.c1, (World.frozen?_of_block (w := w) (a := ⟨p, 1, none⟩) ep).trans h.c.z1, Nat.lt_of_lt_of_le h.c.blt G.size,
    fun i hi => by
      have := World.cell?_setCells_in b (List.replicate n (Value.slice none 0 0)) 0 w (fun j hj => by rw [List.length_replicate] at hj; rw [Nat.zero_add, h.c.row j hj]; rfl) i (by simpa using hi)
      rw [Nat.zero_add] at this
      rw [e, this]
      simp,
    fun i hi => by rw [e, World.frozen?_setCells]; exact h.c.fz i hi,
    fun i _ => Own.nil _, h.c.ne, fun i _ q => (by cases q), fun i _ q => (by cases q), fun i j g _ _ _ q => (by cases q), fun i _ => (by simp), fun i _ => (by simp), fun i _ t ht => (by simp at ht), h.c.w1, h.c.w16, h.c.n1, h.c.n4⟩
theorem Flush_ok {w : World} {F : Nat → Prop} {p n ways : Nat} {f : Nat → List Int} (h : Ca w F p n ways f) :
    Calls Try.prog 17 #[.pointer (some ⟨p, 0, none⟩)] w fun e w' => e = .returned (.tuple #[.int .i64 (cnt f n), .int .i64 0]) ∧ Flu w F p n ways w' := by
  obtain ⟨b, V, hP⟩ := h.parts
  have hc := hP.c.c1
  have hcl : ∀ ty, (Builtin.clear_ #[52] ty #[.slice (some ⟨b, 0, none⟩) n n]).run Try.prog w = .ok (.tuple #[]) (w.setCells b 0 (List.replicate n (.slice none 0 0))) := fun ty =>
    Lib.run_clear_slice w 52 37 ty (.slice none 0 0) Try.underlying52 (zero_of_info Try.zeroS).1 rfl rfl b 0 n n (by have := hP.c.n1; omega) (fun j hj => by rw [Nat.zero_add, hP.c.row j hj]; rfl) (fun j hj => by rw [Nat.zero_add]; exact hP.c.fz j hj)
  have HF : Hid (Flu w F p n ways (w.setCells b 0 (List.replicate n (.slice none 0 0)))) := hP.cleared rfl
  generalize w.setCells b 0 (List.replicate n (.slice none 0 0)) = wz at *
  have HM : Hid (Calls _ _ _ _ _) := made_any hP.c
  have HC : Hid (Calls _ _ _ _ _) := Count_c hP.c
  generalize Proofs.Ytpedgpaebdoafaa.cnt f n = c at *
  clear hP h
  go_enter Try.func17, Try.ntmps17
  go_wp2_with fail
  refine HM.out.mono ?_
  rintro e w' ⟨rfl, rfl⟩
  go_wp2_with fail
  refine HC.out.mono ?_
  rintro e w' ⟨rfl, rfl⟩
  go_wp2
  go_ret2
  exact ⟨rfl, HF.out⟩
/-- A list of lines that a call made. -/
def Lns (B : Nat) (w : World) (v : Value) (l : List (Nat × Int)) : Prop := w.ownsRow B 56 2 v l.length (lv l)
theorem Lns.nil (B : Nat) (w : World) : Lns B w (.slice none 0 0) [] := World.ownsRow_nil w B 56 2
theorem Lns.add {B : Nat} {w' : World} {v' : Value} {l : List (Nat × Int)} {k : Nat} {t : Int} {n : Nat} (hn : l.length + 1 = n) (o : w'.ownsRow B 56 2 v' n (lv l ++ [.int .i64 k, .int .u64 t])) : Lns B w' v' (l ++ [(k, t)]) := by
  unfold Lns
  rw [lv_app]
  have : (l ++ [(k, t)]).length = n := by simp [hn]
  rw [this]
  exact o
theorem Cch.below {w w' : World} {p b n ways : Nat} {V : Nat → Value} {f : Nat → List Int} (h : Cch w p b n ways V f) (k : Below w.heap.size w w') : Cch w' p b n ways V f :=
  h.of_eq k.size (k.block p h.lt) (k.block b h.blt) (fun i g hi hg => k.block g ((h.own i hi).lt g hg))
theorem map_take_succ {f : List Int} {j : Nat} {t : Int} (n : Nat) (h : f[j]? = some t) : (f.take (j + 1)).map (fun t => (n, t)) = (f.take j).map (fun t => (n, t)) ++ [(n, t)] := by
  rw [List.take_add_one, h]
  simp
theorem cell_two_new (w : World) (x y : Value) (t : TypeId) : ∀ j u, [x, y][j]? = some u → (w.alloc (.cells #[x, y] t)).cell? ((⟨w.heap.size, 0, none⟩ : Addr).add j) = some u := by
  intro j u hj
  rw [Go.WideShapes.add_plain, Nat.zero_add, cell_of_row _ _ j _ t (0, 0) (heap_alloc_last w _)]
  simpa using hj
set_option maxHeartbeats 1000000 in
theorem Lines_ok {w : World} {F : Nat → Prop} {p n ways : Nat} {f : Nat → List Int} (h : Ca w F p n ways f) :
    Calls Try.prog 19 #[.pointer (some ⟨p, 0, none⟩)] w fun e w' => ∃ v, e = .returned v ∧ Lns w.heap.size w' v (lns f n) ∧ Below w.heap.size w w' := by
  obtain ⟨i0, hi0, hz0, hz1, hz2⟩ := info_parts Try.infoL
  obtain ⟨b, V, hP⟩ := h.parts
  have hM := hP.c
  have hc := hM.c1
  have h4 := hM.n4
  have hcl := hM.cnt n (Nat.le_refl _)
  have HM : Hid (Cch w p b n ways V f) := hM
  have HMa : Hid (Calls _ _ _ _ _) := made_any hM
  have HC : Hid (Calls _ _ _ _ _) := Count_c hM
  clear hM hP h
  generalize Proofs.Ytpedgpaebdoafaa.cnt f n = c at *
  go_enter Try.func19, Try.ntmps19
  go_wp2_with fail
  refine HMa.out.mono ?_
  rintro e w' ⟨rfl, rfl⟩
  go_wp2_with fail
  refine HC.out.mono ?_
  rintro e w' ⟨rfl, rfl⟩
  go_wp2_with (at_make; refine wpList_make_own _ rfl _ _ 50 rfl w'.heap.size 56 i0 _ 2 Try.underlying50 hi0 hz0 hz1 _ _ _ c rfl rfl rfl (by rw [hz2]; omega) (by unfold maxLen; omega) (Nat.le_refl _) ?_; intro w1 o1 g1; have hB1 : Below w'.heap.size w' w1 := below_of g1 _ (Nat.le_refl _) (by simp); have hc1 := (HM.out.below hB1).c1)
  go_loopw [3, 19] (fun v i wr => ∃ k : Nat, k ≤ n ∧ i = .int .i64 k ∧ Lns w'.heap.size wr v (lns f k) ∧ Below w'.heap.size w' wr) (fun _ i _ => n - (intOf i).toNat)
  case atStart => exact ⟨0, by omega, rfl, o1, hB1⟩
  case round =>
    obtain ⟨k, hk, rfl, o, hb⟩ := hrel
    clear o1 g1 hB1 hc1
    have HO : Hid (Lns w'.heap.size wr u3 (lns f k)) := o
    have HB : Hid (Below w'.heap.size w' wr) := hb
    have hsz := hb.size
    have hd := (HM.out.below hb).c1
    clear o hb
    by_cases hlt : k < n
    · have hr := (HM.out.below HB.out).row k hlt
      obtain ⟨a, cap, hv⟩ := (HM.out.own k hlt).len
      have HV : Hid (V k = .slice a (f k).length cap) := hv
      rw [hv] at hr
      clear hv
      have hm := HM.out.len k hlt
      have hm2 := HM.out.w16
      have hcn := HM.out.cnt (k + 1) (by omega)
      rw [show Proofs.Ytpedgpaebdoafaa.cnt f (k + 1) = (lns f k).length + (f k).length by rw [lns_len]; rfl] at hcn
      obtain ⟨m, hmm⟩ : ∃ m, (f k).length = m := ⟨_, rfl⟩
      have HMM : Hid ((f k).length = m) := hmm
      rw [hmm] at hr hm hcn HV
      clear hmm
      go_wp2_with fail
      clear hr hd
      go_loopw [3, 26] (fun v i wr => ∃ j : Nat, j ≤ m ∧ i = .int .i64 j ∧ Lns w'.heap.size wr v (lns f k ++ ((f k).take j).map (fun t => (k, t))) ∧ Below w'.heap.size w' wr) (fun _ i _ => m - (intOf i).toNat)
      case atStart => exact ⟨0, by omega, rfl, by simpa using HO.out, HB.out⟩
      case round =>
        clear HO HB hsz
        obtain ⟨j, hj, rfl, o, hb⟩ := hrel
        have HO : Hid (Lns w'.heap.size wr _ _) := o
        have HB : Hid (Below w'.heap.size w' wr) := hb
        have hsz := hb.size
        clear o hb
        by_cases hjl : j < m
        · have hg : (f k)[j]? = some ((f k)[j]'(by rw [HMM.out]; exact hjl)) := List.getElem?_eq_getElem _
          generalize (f k)[j]'(by rw [HMM.out]; exact hjl) = t at *
          have HG : Hid ((f k)[j]? = some t) := hg
          obtain ⟨g, cap', e1, hcell⟩ := ((HM.out.below HB.out).own k hlt).cell hg
          clear hg
          rw [HV.out, HMM.out] at e1
          cases e1
          have hlen : (lns f k ++ ((f k).take j).map (fun t => (k, t))).length + 1 ≤ 65536 := by simp; rw [HMM.out]; omega
          have HS : Hid ((f k).take (j + 1) = (f k).take j ++ [t]) := by unfold Hid; rw [List.take_add_one, HG.out]; rfl
          obtain ⟨A, hA⟩ : ∃ A, lns f k ++ ((f k).take j).map (fun t => (k, t)) = A := ⟨_, rfl⟩
          have HA : Hid (lns f k ++ ((f k).take j).map (fun t => (k, t)) = A) := hA
          rw [hA] at HO hlen
          clear hA
          have HOr := HO.out
          unfold Lns at HOr
          have HOr : Hid (World.ownsRow _ _ _ _ _ _ _) := HOr
          go_wp2_with (at_builtin; refine wpList_append_own _ rfl (.tmp 30) (.tmp 34) 50 rfl w'.heap.size 56 i0 _ 2 16 Try.underlying50 hi0 hz0 hz1 hz2 rfl (by decide) _ A.length _ rfl (World.ownsRow.alloc HOr.out _) ⟨wr.heap.size, 0, none⟩ 1 1 [.int .i64 k, .int .u64 t] rfl rfl (cell_two_new _ _ _ _) (by intro u hu; simp at hu; rcases hu with rfl | rfl <;> rfl) (by unfold maxLen; omega) (by omega) (by simp; omega) ?_; intro v2 w2 o2 gr2 nil2)
          go_roundw
          case rel =>
            refine ⟨j + 1, by omega, by go_num, ?_, (HB.out.alloc hsz _).grown gr2 (by simp; omega) (fun k hk => (HOr.out.lt k hk).1)⟩
            rw [HS.out, List.map_append, ← List.append_assoc, HA.out]
            exact Lns.add rfl o2
          case measure => simp [intOf]; omega
        · obtain rfl : j = m := by omega
          have HO2 : Hid (Lns w'.heap.size wr u3 (lns f (k + 1))) := by
            have e := HO.out
            rw [List.take_of_length_le (by rw [HMM.out]; exact Nat.le_refl _)] at e
            exact e
          clear HO
          go_wp2
          go_roundw
          case rel => exact ⟨k + 1, by omega, by go_num, HO2.out, HB.out⟩
          case measure => simp [intOf]; omega
    · obtain rfl : k = n := by omega
      go_wp2
      go_ret
      exact ⟨_, rfl, HO.out, HB.out⟩
end Go.Proofs.Ytpedgpaebdoafaa
