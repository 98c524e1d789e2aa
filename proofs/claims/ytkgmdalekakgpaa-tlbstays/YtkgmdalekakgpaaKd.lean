/- The statement TlbStays's own functions: dropped. -/
import Derived.Test.YtkgmdalekakgpaaKb
namespace Go.Proofs.Ytkgmdalekakgpaa
open Go.ChangeShapes Go.WideShapes Go.ChangeAt Go.RowKit
set_option linter.unusedVariables false

theorem kd_len (a p : Int) (l : List Kx) : (kd a p l).length = l.length := by simp [kd]
def kx (a p : Int) (z : Kx) : Kx := if hk a p z.x then { z with gone := true } else z
theorem kd_snoc {a p : Int} {l : List Kx} {j : Nat} {y : Kx} (h : l[j]? = some y) : kd a p (l.take (j + 1)) = kd a p (l.take j) ++ [kx a p y] := by
  rw [List.take_add_one, h]
  simp [kd, kx]
set_option maxHeartbeats 2000000 in
theorem dropped_any {B : Nat} {w : World} {v : Value} {l : List Kx} (ho : KOwn B w v l) (hl : l.length ≤ 1000) (a p : Int) :
    Calls Try.prog 20 #[v, .int .i64 a, .int .i64 p] w fun e w' => ∃ v', e = .returned v' ∧ KOwn w.heap.size w' v' (kd a p l) ∧ Below w.heap.size w w' := by
  obtain ⟨i0, hi0, hz0, hz1, hz2⟩ := info_parts Try.infoK
  obtain ⟨ao, cap, hv⟩ := ho.len
  subst hv
  have HO : Hid (KOwn B w (.slice ao l.length cap) l) := ho
  clear ho
  go_enter Try.func20, Try.ntmps20
  go_wp2_with fail
  go_loopw [7, 8] (fun v i wr => ∃ j : Nat, j ≤ l.length ∧ i = .int .i64 j ∧ KOwn w.heap.size wr v (kd a p (l.take j)) ∧ Below w.heap.size w wr) (fun _ i _ => l.length - (intOf i).toNat)
  case atStart => exact ⟨0, by omega, rfl, KOwn.nil _ _, Below.refl _ _⟩
  case round =>
    obtain ⟨j, hj, rfl, o, hb⟩ := hrel
    have HB : Hid (Below w.heap.size w wr) := hb
    have hsz := hb.size
    have HK : Hid (wr.ownsRow w.heap.size 46 7 u7 (kd a p (l.take j)).length (kv (kd a p (l.take j)))) := o
    have hA : (kd a p (l.take j)).length ≤ 1000 := by rw [kd_len]; simp; omega
    clear o
    by_cases hlt : j < l.length
    · have hg : l[j]? = some l[j] := List.getElem?_eq_getElem hlt
      have HG : Hid (l[j]? = some l[j]) := hg
      obtain ⟨gr, cap', e1, ⟨⟨d0, d1, d2, d3, d4, d5⟩, d6⟩, hgl, hc1, hc2⟩ := (HO.out.below hb).cell hg
      cases e1
      clear hg hb
      generalize l[j] = z at *
      unfold maxLen at hc2
      by_cases ha : z.x.a = a
      · by_cases hp : z.x.p = p
        · have HZ : Hid (kx a p z = ⟨z.x, true⟩) := by unfold Hid; simp [kx, hk, ha, hp]
          have q1 : (z.x.a == a) = true := by simpa using ha
          have q2 : (z.x.p == p) = true := by simpa using hp
          clear ha hp
          have HN : Hid (∀ o j u, (kc ⟨z.x, true⟩)[j]? = some u → ((wr.alloc o).alloc (.cells #[.int .i64 z.x.a, .int .i64 z.x.p, .int .i64 z.x.f, .bool z.x.r, .bool z.x.w, .bool z.x.d, .bool true] 46)).cell? ((⟨wr.heap.size + 1, 0, none⟩ : Addr).add j) = some u) := fun o j u hu => by
            have := kbox_cells (wr.alloc o) ⟨z.x, true⟩ 46 j u hu
            rw [show (wr.alloc o).heap.size = wr.heap.size + 1 by simp] at this
            exact this
          have HT : Hid (∀ v ∈ kc ⟨z.x, true⟩, v.oneCell' = true) := kc_one _
          have HF : Hid (kd a p (l.take (j + 1)) = kd a p (l.take j) ++ [⟨z.x, true⟩]) := by
            unfold Hid
            rw [kd_snoc HG.out, HZ.out]
          obtain ⟨A, hAA⟩ : ∃ A, kd a p (l.take j) = A := ⟨_, rfl⟩
          have HAA : Hid (kd a p (l.take j) = A) := hAA
          rw [hAA] at HK hA HF
          clear hAA
          go_wp2_with (at_builtin; refine wpList_append_own _ rfl (.tmp 33) (.tmp 35) 41 rfl w.heap.size 46 i0 _ 7 40 Try.underlying41 hi0 hz0 hz1 hz2 rfl (by decide) _ A.length _ rfl (World.ownsRow.alloc (World.ownsRow.alloc HK.out _) _) ⟨wr.heap.size + 1, 0, none⟩ 1 1 (kc ⟨z.x, true⟩) rfl rfl (HN.out _) HT.out (by unfold maxLen; omega) (by omega) (by simp; omega) ?_; intro v3 w3 o3 gr3 nil3)
          go_roundw
          case rel =>
            refine ⟨j + 1, by omega, by go_num, ?_, ((HB.out.alloc hsz _).alloc (by simp; omega) _).grown gr3 (by simp; omega) (fun k hk => (HK.out.lt k hk).1)⟩
            rw [HF.out]
            unfold KOwn
            rw [kv_app, List.length_append, show kv [⟨z.x, true⟩] = kc ⟨z.x, true⟩ by simp [kv]]
            exact o3
          case measure => simp [intOf]; omega
        · have HZ : Hid (kx a p z = ⟨z.x, z.gone⟩) := by unfold Hid; simp [kx, hk, hp]
          have q1 : (z.x.a == a) = true := by simpa using ha
          have q2 : (z.x.p == p) = false := by simpa using hp
          clear ha hp
          have HN : Hid (∀ o j u, (kc ⟨z.x, z.gone⟩)[j]? = some u → ((wr.alloc o).alloc (.cells #[.int .i64 z.x.a, .int .i64 z.x.p, .int .i64 z.x.f, .bool z.x.r, .bool z.x.w, .bool z.x.d, .bool z.gone] 46)).cell? ((⟨wr.heap.size + 1, 0, none⟩ : Addr).add j) = some u) := fun o j u hu => by
            have := kbox_cells (wr.alloc o) ⟨z.x, z.gone⟩ 46 j u hu
            rw [show (wr.alloc o).heap.size = wr.heap.size + 1 by simp] at this
            exact this
          have HT : Hid (∀ v ∈ kc ⟨z.x, z.gone⟩, v.oneCell' = true) := kc_one _
          have HF : Hid (kd a p (l.take (j + 1)) = kd a p (l.take j) ++ [⟨z.x, z.gone⟩]) := by
            unfold Hid
            rw [kd_snoc HG.out, HZ.out]
          obtain ⟨A, hAA⟩ : ∃ A, kd a p (l.take j) = A := ⟨_, rfl⟩
          have HAA : Hid (kd a p (l.take j) = A) := hAA
          rw [hAA] at HK hA HF
          clear hAA
          go_wp2_with (at_builtin; refine wpList_append_own _ rfl (.tmp 33) (.tmp 35) 41 rfl w.heap.size 46 i0 _ 7 40 Try.underlying41 hi0 hz0 hz1 hz2 rfl (by decide) _ A.length _ rfl (World.ownsRow.alloc (World.ownsRow.alloc HK.out _) _) ⟨wr.heap.size + 1, 0, none⟩ 1 1 (kc ⟨z.x, z.gone⟩) rfl rfl (HN.out _) HT.out (by unfold maxLen; omega) (by omega) (by simp; omega) ?_; intro v3 w3 o3 gr3 nil3)
          go_roundw
          case rel =>
            refine ⟨j + 1, by omega, by go_num, ?_, ((HB.out.alloc hsz _).alloc (by simp; omega) _).grown gr3 (by simp; omega) (fun k hk => (HK.out.lt k hk).1)⟩
            rw [HF.out]
            unfold KOwn
            rw [kv_app, List.length_append, show kv [⟨z.x, z.gone⟩] = kc ⟨z.x, z.gone⟩ by simp [kv]]
            exact o3
          case measure => simp [intOf]; omega
      · have HZ : Hid (kx a p z = ⟨z.x, z.gone⟩) := by unfold Hid; simp [kx, hk, ha]
        have q1 : (z.x.a == a) = false := by simpa using ha
        clear ha
        have HN : Hid (∀ o j u, (kc ⟨z.x, z.gone⟩)[j]? = some u → ((wr.alloc o).alloc (.cells #[.int .i64 z.x.a, .int .i64 z.x.p, .int .i64 z.x.f, .bool z.x.r, .bool z.x.w, .bool z.x.d, .bool z.gone] 46)).cell? ((⟨wr.heap.size + 1, 0, none⟩ : Addr).add j) = some u) := fun o j u hu => by
          have := kbox_cells (wr.alloc o) ⟨z.x, z.gone⟩ 46 j u hu
          rw [show (wr.alloc o).heap.size = wr.heap.size + 1 by simp] at this
          exact this
        have HT : Hid (∀ v ∈ kc ⟨z.x, z.gone⟩, v.oneCell' = true) := kc_one _
        have HF : Hid (kd a p (l.take (j + 1)) = kd a p (l.take j) ++ [⟨z.x, z.gone⟩]) := by
          unfold Hid
          rw [kd_snoc HG.out, HZ.out]
        obtain ⟨A, hAA⟩ : ∃ A, kd a p (l.take j) = A := ⟨_, rfl⟩
        have HAA : Hid (kd a p (l.take j) = A) := hAA
        rw [hAA] at HK hA HF
        clear hAA
        go_wp2_with (at_builtin; refine wpList_append_own _ rfl (.tmp 33) (.tmp 35) 41 rfl w.heap.size 46 i0 _ 7 40 Try.underlying41 hi0 hz0 hz1 hz2 rfl (by decide) _ A.length _ rfl (World.ownsRow.alloc (World.ownsRow.alloc HK.out _) _) ⟨wr.heap.size + 1, 0, none⟩ 1 1 (kc ⟨z.x, z.gone⟩) rfl rfl (HN.out _) HT.out (by unfold maxLen; omega) (by omega) (by simp; omega) ?_; intro v3 w3 o3 gr3 nil3)
        go_roundw
        case rel =>
          refine ⟨j + 1, by omega, by go_num, ?_, ((HB.out.alloc hsz _).alloc (by simp; omega) _).grown gr3 (by simp; omega) (fun k hk => (HK.out.lt k hk).1)⟩
          rw [HF.out]
          unfold KOwn
          rw [kv_app, List.length_append, show kv [⟨z.x, z.gone⟩] = kc ⟨z.x, z.gone⟩ by simp [kv]]
          exact o3
        case measure => simp [intOf]; omega
    · obtain rfl : j = l.length := by omega
      clear hb
      have HK2 : Hid (KOwn w.heap.size wr u7 (kd a p l)) := by
        have := HK.out
        rw [List.take_of_length_le (Nat.le_refl _)] at this
        exact this
      go_wp2
      go_ret
      exact ⟨_, rfl, HK2.out, HB.out⟩
end Go.Proofs.Ytkgmdalekakgpaa
