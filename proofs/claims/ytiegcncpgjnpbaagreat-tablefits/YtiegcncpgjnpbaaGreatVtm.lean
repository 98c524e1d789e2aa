/- How a list of lists of spans that a statement takes is read; no condition. -/
import Derived.Test.YtiegcncpgjnpbaaGreatVte
import Derived.Test.YtiegcncpgjnpbaaGreatVOa
import Derived.Test.YtiegcncpgjnpbaaGreatVtj
import Derived.Test.YtiegcncpgjnpbaaGreatVtl
import Derived.Deep.SlicePairs
import Derived.Lib.SmallJoins
import Derived.Deep.RegionHeldLaw
namespace Go.Proofs.YtiegcncpgjnpbaaGreat.Pg
open P E Go.ChangeShapes Go.WideShapes Go.ChangeAt Go.RowKit Go.Deep
set_option linter.unusedVariables false
set_option maxRecDepth 8192

theorem Tryz.cellsS : Tryz.prog.cellsOf 74 = 2 := by kernel_rfl
theorem Tryz.cellsSs : Tryz.prog.cellsOf 36 = 1 := by kernel_rfl
def wfS (s : Int × Int) : Prop := (-9223372036854775808 ≤ s.1 ∧ s.1 ≤ 9223372036854775807) ∧ -9223372036854775808 ≤ s.2 ∧ s.2 ≤ 9223372036854775807

theorem open_spans {H : Type} {enc : TypeId × Value → H} {W : World} {fuel : Nat} {cs : List Value} {x : DataW H × List MemPlace}
    (h : DataW.trod enc Tryz.prog W 0 (fun _ => true) true fuel 36 cs = some x) :
    ∃ (a0 : Option Addr) (cap : Nat) (xs : List (Int × Int)), cs = [.slice a0 xs.length cap] ∧ xs.length ≤ cap ∧ cap ≤ maxLen ∧ (∀ s ∈ xs, wfS s) ∧ Spn W a0 xs ∧ (a0 = none → cap = 0) ∧
      (x.1 = .nil ∧ cap = 0 ∨ ∃ es sp, x.1 = .slice es sp ∧ es.length = xs.length ∧ sp.length = cap - xs.length) := by
  rcases open_slice_pairs Tryz.underlying36 Tryz.underlying74 Tryz.cellsS rfl rfl (by kernel_rfl) (by kernel_rfl) h with ⟨hcs, hx⟩ | ⟨a, l, c, m, n, V0, V1, D0, D1, P0, P1, hcs, _, hl, hm, hmm, hx, hcell⟩
  · exact ⟨none, 0, [], hcs, Nat.le_refl _, Nat.zero_le _, by simp, Or.inl rfl, fun _ => rfl, Or.inl ⟨by rw [hx], rfl⟩⟩
  · simp only [if_true] at hmm
    subst hmm
    have hN : ∀ i, i < m → ∃ x y : Int, V0 i = .int .i64 x ∧ V1 i = .int .i64 y ∧ wfS (x, y) := by
      intro i hi
      obtain ⟨_, _, t0, t1⟩ := hcell i hi
      obtain ⟨x, e0, _, w0⟩ := DataW.trod_int Tryz.underlying3 t0
      obtain ⟨y, e1, _, w1⟩ := DataW.trod_int Tryz.underlying3 t1
      simp at e0 e1
      exact ⟨x, y, e0, e1, wf_i64 w0, wf_i64 w1⟩
    refine ⟨some a, m, (List.range l).map fun i => (D.iv (V0 i), D.iv (V1 i)), by rw [hcs]; simp, by simpa using hl, hm, ?_, ?_, fun q => (by cases q), Or.inr ⟨_, _, by rw [hx], by simp, by simp⟩⟩
    · intro s hs
      simp only [List.mem_map, List.mem_range] at hs
      obtain ⟨i, hi, rfl⟩ := hs
      obtain ⟨x, y, e0, e1, hw⟩ := hN i (by omega)
      rw [e0, e1]
      exact hw
    · by_cases h0 : l = 0
      · left; subst h0; rfl
      · right
        have hfirst := (hcell 0 (by omega)).1
        simp only [Nat.zero_mul] at hfirst
        obtain ⟨b, off, spot⟩ := a
        have hspot : spot = none := by simpa [Addr.add] using World.cell?_spot hfirst
        subst hspot
        refine ⟨b, off, rfl, ?_, ?_⟩
        · have := World.block_lt_of_cell? W _ hfirst
          simpa [Addr.add] using this
        · intro i hi
          have hi' : i < l := by simpa using hi
          obtain ⟨g0, g1, _, _⟩ := hcell i (by omega)
          obtain ⟨x, y, e0, e1, hw⟩ := hN i (by omega)
          rw [Go.WideShapes.add_plain] at g0 g1
          rw [e0] at g0
          rw [e1] at g1
          simp only [List.getElem_map, List.getElem_range, e0, e1, D.iv]
          exact ⟨g0, by rw [← Nat.add_assoc] at g1; exact g1⟩
def Lsp (W : World) (ao : Option Addr) (n : Nat) (xs : Nat → List (Int × Int)) : Prop := n = 0 ∨ ∃ b off, ao = some ⟨b, off, none⟩ ∧ ∀ i, i < n → ∃ a c, W.cell? ⟨b, off + i, none⟩ = some (.slice a (xs i).length c) ∧ Spn W a (xs i) ∧ (∀ s ∈ xs i, wfS s) ∧ (xs i).length ≤ maxLen
theorem Lsp.at' {w w' : World} {ao : Option Addr} {n : Nat} {xs : Nat → List (Int × Int)} (h : Lsp w ao n xs) (k : Below w.heap.size w w') {i : Nat} (hi : i < n) : ∃ b off a c, ao = some ⟨b, off, none⟩ ∧ w'.cell? ⟨b, off + i, none⟩ = some (.slice a (xs i).length c) ∧ Spn w' a (xs i) ∧ (∀ s ∈ xs i, wfS s) ∧ (xs i).length ≤ maxLen := by
  rcases h with h | ⟨b, off, rfl, h⟩
  · omega
  · obtain ⟨a, c, h1, h2, h3, h4⟩ := h i hi
    exact ⟨b, off, a, c, rfl, (k.cell (p := ⟨b, off + i, none⟩) (World.block_lt_of_cell? w _ h1)).trans h1, h2.below k, h3, h4⟩
theorem open_spanss {H : Type} {enc : TypeId × Value → H} {W : World} {a0 : Option Addr} {len cap : Nat} {d : DataW H} {p : List MemPlace}
    (h : DataW.Trod enc Tryz.prog W 0 (fun _ => true) true 59 (.slice a0 len cap) d p) : ∃ xs, Lsp W a0 len xs ∧ len ≤ maxLen := by
  obtain ⟨fuel, hf⟩ := h
  rcases open_slice1 Tryz.underlying59 Tryz.cellsSs hf with ⟨hcs, hx⟩ | ⟨a, l, c, m, n, V, D, Pl, hcs, _, hl, hm, hmm, hx, hcell⟩
  · simp [Value.cells] at hcs
    obtain ⟨rfl, rfl, rfl⟩ := hcs
    exact ⟨fun _ => [], Or.inl rfl, Nat.zero_le _⟩
  · simp [Value.cells] at hcs
    obtain ⟨rfl, rfl, rfl⟩ := hcs
    simp only [if_true] at hmm
    subst hmm
    obtain ⟨xs, hxs⟩ := choose_lt (α := List (Int × Int)) (n := len) (p := fun i x => ∃ a c, V i = .slice a x.length c ∧ Spn W a x ∧ (∀ s ∈ x, wfS s) ∧ x.length ≤ maxLen) (fun i hi => by
      obtain ⟨a1, c1, x1, e1, q1, q2, q3, q4, _⟩ := open_spans (hcell i (by omega)).2
      exact ⟨x1, a1, c1, by simpa using e1, q4, q3, by omega⟩)
    refine ⟨xs, ?_, by omega⟩
    by_cases h0 : len = 0
    · exact Or.inl h0
    · right
      have hfirst := (hcell 0 (by omega)).1
      obtain ⟨b, off, spot⟩ := a
      have hspot : spot = none := by simpa [Addr.add] using World.cell?_spot hfirst
      subst hspot
      refine ⟨b, off, rfl, fun i hi => ?_⟩
      obtain ⟨a1, c1, e1, q1, q2, q3⟩ := hxs i hi
      have := (hcell i (by omega)).1
      rw [Go.WideShapes.add_plain, e1] at this
      exact ⟨a1, c1, this, q1, q2, q3⟩
end Go.Proofs.YtiegcncpgjnpbaaGreat.Pg
namespace Go.Proofs.YtiegcncpgjnpbaaGreat.Pg
open P E Go.ChangeShapes Go.WideShapes Go.ChangeAt Go.RowKit
set_option linter.unusedVariables false
set_option maxRecDepth 8192

def hasS (xs : List (Int × Int)) (pg : Int) : Bool := xs.any fun s => decide (s.1 ≤ pg) && decide (pg - s.1 < s.2)
def ath (xs : List (Int × Int)) (a : Int) : Nat → Bool
  | 0 => false
  | n + 1 => ath xs a n || hasS xs (a + (n : Int))
theorem ath_iff {xs : List (Int × Int)} {a : Int} : ∀ {n : Nat}, ath xs a n = true ↔ ∃ k : Nat, k < n ∧ hasS xs (a + (k : Int)) = true
  | 0 => by simp [ath]
  | n + 1 => by
    rw [ath, Bool.or_eq_true, ath_iff]
    constructor
    · rintro (⟨k, h1, h2⟩ | h)
      · exact ⟨k, by omega, h2⟩
      · exact ⟨n, by omega, h⟩
    · rintro ⟨k, h1, h2⟩
      by_cases e : k = n
      · right; rw [← e]; exact h2
      · left; exact ⟨k, by omega, h2⟩
theorem ath_nd {xs : List (Int × Int)} (q : Nat) : ath xs ((q : Int) * 32) 32 = nd xs 3 q := by
  rw [Bool.eq_iff_iff, ath_iff, nd, A.cov_iff]
  constructor
  · rintro ⟨k, hk, h⟩
    obtain ⟨s, hs, h⟩ := List.any_eq_true.1 h
    rw [Bool.and_eq_true, decide_eq_true_eq, decide_eq_true_eq] at h
    refine ⟨s, hs, ?_⟩
    rw [A.ned_iff]
    show 0 < s.2 ∧ s.1 / 32 ≤ (q : Int) ∧ (q : Int) ≤ (s.1 + s.2 - 1) / 32
    omega
  · rintro ⟨s, hs, h⟩
    rw [A.ned_iff] at h
    have h' : 0 < s.2 ∧ s.1 / 32 ≤ (q : Int) ∧ (q : Int) ≤ (s.1 + s.2 - 1) / 32 := h
    by_cases e : s.1 ≤ (q : Int) * 32
    · refine ⟨0, by omega, List.any_eq_true.2 ⟨s, hs, ?_⟩⟩
      rw [Bool.and_eq_true, decide_eq_true_eq, decide_eq_true_eq]
      omega
    · refine ⟨(s.1 - (q : Int) * 32).toNat, by omega, List.any_eq_true.2 ⟨s, hs, ?_⟩⟩
      rw [Bool.and_eq_true, decide_eq_true_eq, decide_eq_true_eq]
      omega
def kpt (xs : List (Int × Int)) (l : List (Nat × Int)) : List (Nat × Int) := l.filter fun x => nd xs 3 (x.1 / 32)
def wot (pg : Int) (l : List (Nat × Int)) : List (Nat × Int) := l.filter fun x => decide ((x.1 : Int) ≠ pg)
theorem kpt_snoc (xs : List (Int × Int)) (l : List (Nat × Int)) (x : Nat × Int) : kpt xs (l ++ [x]) = if nd xs 3 (x.1 / 32) = true then kpt xs l ++ [x] else kpt xs l := by
  unfold kpt
  rw [List.filter_append]
  split
  · rename_i h; simp [h]
  · rename_i h; simp [h]
theorem wot_snoc (pg : Int) (l : List (Nat × Int)) (x : Nat × Int) : wot pg (l ++ [x]) = if (x.1 : Int) = pg then wot pg l else wot pg l ++ [x] := by
  unfold wot
  rw [List.filter_append]
  split
  · rename_i h; simp [h]
  · rename_i h; simp [h]
structure Pl (P : Par) (m : Nat → Option Nat) (r : Nat) (S : E.Sc × Us) (now : List (Int × Int)) (set : List (Nat × Int)) : Prop where
  rt : m r ≠ none
  cu : cU S.2 3 4096 = all (pr (wd S.1.m) r)
  has : ∀ d k, 0 < d → d ≤ 3 → pr (wd S.1.m) r d k = nd now d k
  ap : set.Pairwise (fun a b => a.1 ≠ b.1)
  mem : ∀ x : Nat × Int, x ∈ set ↔ pw (wd S.1.m) r x.1 = x.2 ∧ x.2 ≠ 0
  us : ∀ f, S.2 f = none ∨ S.2 f = some 3
theorem Pl.root {P : Par} {r : Nat} {S S' : E.Sc × Us} (D : Rootd P (fun _ => none) r S S') (h0 : S.2 = fun _ => none) : Pl P (B.pt (fun _ => none) r (some 0)) r S' [] [] := by
  have hc : cU S.2 3 4096 = 0 := by rw [h0]; exact cU_none _ _
  refine ⟨pt_same _ _, by rw [D.cu, D.all, hc], fun d k h1 h3 => ?_, List.Pairwise.nil, fun x => ?_, fun f => ?_⟩
  · unfold pr
    rw [D.me d k, if_neg (by omega)]
    rfl
  · rw [D.no_pw]
    constructor
    · intro h; simp at h
    · rintro ⟨h1, h2⟩; exact absurd h1.symm h2
  · rcases D.us f with h | h
    · left; rw [h, h0]
    · exact Or.inr h
theorem Pl.fit {P : Par} {m : Nat → Option Nat} {r : Nat} {S S' : E.Sc × Us} {now xs : List (Int × Int)} {set : List (Nat × Int)} (K : Pl P m r S now set) (F : Fitd P (fun x => m x ≠ none) r xs S S') : Pl P m r S' xs (kpt xs set) := by
  refine ⟨K.rt, ?_, F.has, K.ap.filter _, fun x => ?_, fun f => ?_⟩
  · have := F.cu
    rw [F.all]
    rw [← K.cu] at this
    omega
  · rw [kpt, List.mem_filter, K.mem, F.pw r x.1 K.rt]
    cases hn : nd xs 3 (x.1 / 32) with
    | true => rw [if_neg (by simp)]; simp
    | false =>
      rw [if_pos ⟨rfl, rfl⟩]
      constructor
      · rintro ⟨_, h⟩; cases h
      · rintro ⟨h1, h2⟩; exact absurd h1.symm h2
  · rcases F.us f with h | h | h
    · rw [h]; exact K.us f
    · exact Or.inr h
    · exact Or.inl h
theorem Pl.set {P : Par} {m : Nat → Option Nat} {r pg : Nat} {v : Int} {S S' : E.Sc × Us} {now : List (Int × Int)} {set : List (Nat × Int)} (K : Pl P m r S now set) (DS : Setd m r pg v S S') (hv : v ≠ 0) : Pl P m r S' now (wot (pg : Int) set ++ [(pg, v)]) := by
  have hp : ∀ d k, d ≤ 3 → pr (wd S'.1.m) r d k = pr (wd S.1.m) r d k := fun d k hd => by unfold pr; rw [DS.tb r K.rt d k hd]
  refine ⟨K.rt, ?_, fun d k h1 h3 => (hp d k h3).trans (K.has d k h1 h3), ?_, fun x => ?_, fun f => by rw [DS.us]; exact K.us f⟩
  · rw [DS.us, K.cu]
    exact (cn_ext (fun d k _ hd => hp d k hd)).symm
  · refine List.pairwise_append.2 ⟨K.ap.filter _, List.pairwise_singleton _ _, fun a ha b hb => ?_⟩
    rw [List.mem_singleton.1 hb]
    have := (List.mem_filter.1 ha).2
    rw [decide_eq_true_eq] at this
    show a.1 ≠ pg
    omega
  · rw [List.mem_append, List.mem_singleton, wot, List.mem_filter, K.mem, decide_eq_true_eq, DS.pw r x.1 K.rt]
    by_cases e : x.1 = pg
    · rw [if_pos ⟨rfl, e⟩]
      constructor
      · rintro (⟨_, h⟩ | rfl)
        · omega
        · exact ⟨rfl, hv⟩
      · rintro ⟨h1, _⟩
        exact Or.inr (Prod.ext e h1.symm)
    · rw [if_neg (fun q => e q.2)]
      constructor
      · rintro (⟨h, _⟩ | rfl)
        · exact h
        · exact absurd rfl e
      · intro h
        exact Or.inl ⟨h, by omega⟩
theorem Pl.len {P : Par} {m : Nat → Option Nat} {r : Nat} {S : E.Sc × Us} {now : List (Int × Int)} {set : List (Nat × Int)} (K : Pl P m r S now set) : (lst (wd S.1.m) r).length = set.length := (lst_len K.ap K.mem).symm
theorem cU_not {us : Us} {u : Nat} (h : ∀ f, us f ≠ some u) : ∀ n, cU us u n = 0
  | 0 => rfl
  | n + 1 => by
    rw [cU, cU_not h n, if_neg (h n)]
theorem Pl.drop {P : Par} {m : Nat → Option Nat} {r : Nat} {S S' : E.Sc × Us} {now : List (Int × Int)} {set : List (Nat × Int)} (K : Pl P m r S now set) (DD : Dropd m r S S') : cU S'.2 3 4096 = 0 ∧ tU S'.2 = cU S'.2 1 4096 := by
  have h3 : cU S'.2 3 4096 = 0 := by
    have := DD.cu
    have := K.cu
    omega
  have hu : ∀ f u, u ≠ 3 → S'.2 f ≠ some u := fun f u hu e => by
    rcases DD.us f with h | h
    · rcases K.us f with q | q
      · rw [h, q] at e; cases e
      · rw [h, q] at e; exact hu (Option.some.inj e).symm
    · rw [h] at e; cases e
  refine ⟨h3, ?_⟩
  unfold tU
  rw [cU_not (fun f => hu f 1 (by decide)), cU_not (fun f => hu f 2 (by decide)), h3, cU_not (fun f => hu f 4 (by decide)), cU_not (fun f => hu f 5 (by decide)), cU_not (fun f => hu f 6 (by decide))]
end Go.Proofs.YtiegcncpgjnpbaaGreat.Pg
namespace Go.Proofs.YtiegcncpgjnpbaaGreat.Pg
open P E Go.ChangeShapes Go.WideShapes Go.ChangeAt Go.RowKit
set_option linter.unusedVariables false
set_option maxRecDepth 8192

theorem hasS_take {xs : List (Int × Int)} {k : Nat} (hk : k < xs.length) (pg : Int) : hasS (xs.take (k + 1)) pg = (hasS (xs.take k) pg || (decide (xs[k].1 ≤ pg) && decide (pg - xs[k].1 < xs[k].2))) := by
  unfold hasS
  rw [List.take_add_one, List.getElem?_eq_getElem hk, List.any_append]
  simp only [Option.toList_some, List.any_cons, List.any_nil, Bool.or_false]
set_option maxHeartbeats 1000000 in
theorem has_ok {w : World} {ao : Option Addr} {cap : Nat} {xs : List (Int × Int)} (hs : Spn w ao xs) (hl : xs.length ≤ 1024) (hv : ∀ s ∈ xs, A.mayS s = true) (pg : Int) (h0 : 0 ≤ pg) (h1 : pg < 2097152) :
    Calls Tryz.prog 77 #[.slice ao xs.length cap, .int .i64 pg] w fun e w' => e = .returned (.bool (hasS xs pg)) ∧ Below w.heap.size w w' := by
  have HS : Hid (Spn w ao xs) := hs
  have HV : Hid (∀ s ∈ xs, A.mayS s = true) := hv
  clear hs hv
  go_enter Tryz.func77, Tryz.ntmps77
  go_wp2_with fail
  go_loopw [5] (fun i wr => ∃ k : Nat, k ≤ xs.length ∧ i = .int .i64 k ∧ Below w.heap.size w wr ∧ hasS (xs.take k) pg = false) (fun i _ => xs.length - (D.iv i).toNat)
  case atStart => exact ⟨0, by omega, rfl, Below.refl _ _, rfl⟩
  case round =>
    obtain ⟨k, hk, rfl, hb, hn⟩ := hrel
    have HBr : Hid (Below w.heap.size w wr) := hb
    have HN : Hid (hasS (xs.take k) pg = false) := hn
    clear hb hn
    by_cases hlt : k < xs.length
    case' pos =>
      obtain ⟨b, off, rfl, c1, c2⟩ := (HS.out.below HBr.out).at' hlt
      have hm := HV.out xs[k] (List.getElem_mem hlt)
      have hx := hasS_take hlt pg
      rw [HN.out, Bool.false_or] at hx
      have HX : Hid (hasS (xs.take (k + 1)) pg = (decide (xs[k].1 ≤ pg) && decide (pg - xs[k].1 < xs[k].2))) := hx
      have HT : Hid (decide (xs[k].1 ≤ pg) = true → decide (pg - xs[k].1 < xs[k].2) = true → hasS xs pg = true) := fun q1 q2 => List.any_eq_true.2 ⟨xs[k], List.getElem_mem hlt, by rw [q1, q2]; rfl⟩
      simp only [A.mayS, Bool.and_eq_true, decide_eq_true_eq] at hm
      obtain ⟨⟨m0, m1⟩, m2⟩ := hm
      have ix1 : (0 : Int) ≤ (k : Int) := Int.natCast_nonneg k
      have ix2 : (k : Int) < (xs.length : Int) := Int.ofNat_lt.2 hlt
      clear hx
      generalize xs[k].1 = a at *
      generalize xs[k].2 = n at *
      have hw1 : IntKind.i64.wrap (pg - a) = pg - a := IntWalk.i64_in _ (by omega)
      by_cases h1 : a ≤ pg
      case' pos =>
        have d1 : decide (a ≤ pg) = true := decide_eq_true h1
        by_cases h2 : pg - a < n
        case' pos =>
          have d2 : decide (pg - a < n) = true := decide_eq_true h2
          have HR : Hid (hasS xs pg = true) := HT.out d1 d2
          clear HX HT
          go_wp2
          go_quiet (fail)
          go_wp2
          go_ret
          rw [HR.out]
          exact ⟨rfl, N.below_drewN HBr.out _⟩
        case' neg =>
          have d2 : decide (pg - a < n) = false := decide_eq_false h2
          have HR : Hid (hasS (xs.take (k + 1)) pg = false) := by unfold Hid; rw [HX.out, d2, Bool.and_false]
          clear HX HT
          go_wp2
          go_quiet (fail)
          go_wp2
          go_roundw
          case rel => exact ⟨k + 1, by omega, by go_num, N.below_drewN HBr.out _, HR.out⟩
          case measure => simp [D.iv]; omega
      case' neg =>
        have d1 : decide (a ≤ pg) = false := decide_eq_false h1
        have HR : Hid (hasS (xs.take (k + 1)) pg = false) := by unfold Hid; rw [HX.out, d1, Bool.false_and]
        clear HX HT
        go_wp2
        go_quiet (fail)
        go_wp2
        go_roundw
        case rel => exact ⟨k + 1, by omega, by go_num, N.below_drewN HBr.out _, HR.out⟩
        case measure => simp [D.iv]; omega
    case' neg =>
      obtain rfl : k = xs.length := by omega
      have HR : Hid (hasS xs pg = false) := by have := HN.out; rw [List.take_length] at this; exact this
      go_wp2
      go_ret
      rw [HR.out]
      exact ⟨rfl, HBr.out⟩
def ftd (xs : List (Int × Int)) : List (Int × Int) := (xs.take 6).map fun s => (s.1 % 1048512, s.2 % 40)
theorem ftd_len (xs : List (Int × Int)) : (ftd xs).length ≤ 6 := by simp [ftd]; omega
theorem ftd_take {xs : List (Int × Int)} {k : Nat} (hk : k < xs.length) : (xs.take (k + 1)).map (fun s : Int × Int => (s.1 % 1048512, s.2 % 40)) = (xs.take k).map (fun s : Int × Int => (s.1 % 1048512, s.2 % 40)) ++ [(xs[k].1 % 1048512, xs[k].2 % 40)] := by
  rw [List.take_add_one, List.getElem?_eq_getElem hk, List.map_append]
  rfl
theorem Tryz.infoS : (Tryz.prog.info? 74).map (fun i => (i.zero, i.size, i.bytes)) = some (some (.agg #[.int .i64 0, .int .i64 0]), 2, 16) := by kernel_rfl
def Sr (w : World) (base : Nat) (v : Value) (l : List (Int × Int)) : Prop := w.ownsRow base 74 2 v l.length (A.flat l)
theorem Sr.push {w' : World} {base : Nat} {l : List (Int × Int)} {x : Int × Int} {g cap : Nat} (h : w'.ownsRow base 74 2 (.slice (some ⟨g, 0, none⟩) (l.length + 1) cap) (l.length + 1) (A.flat l ++ [.int .i64 x.1, .int .i64 x.2])) : Sr w' base (.slice (some ⟨g, 0, none⟩) (l.length + 1) cap) (l ++ [x]) := by
  unfold Sr
  rw [show A.flat (l ++ [x]) = A.flat l ++ [.int .i64 x.1, .int .i64 x.2] by simp [A.flat], List.length_append, List.length_singleton]
  exact h
set_option maxHeartbeats 1000000 in
theorem fitted_ok {w : World} {ao : Option Addr} {cap : Nat} {xs : List (Int × Int)} (hs : Spn w ao xs) (hl : xs.length ≤ maxLen) (hv : ∀ s ∈ xs, wfS s) :
    Calls Tryz.prog 24 #[.slice ao xs.length cap] w fun e w' => ∃ v, e = .returned v ∧ Sr w' w.heap.size v (ftd xs) ∧ Below w.heap.size w w' := by
  have HS : Hid (Spn w ao xs) := hs
  have HV : Hid (∀ s ∈ xs, wfS s) := hv
  obtain ⟨i0, hi0, hz0, hz1, hz2⟩ := info_parts Tryz.infoS
  unfold maxLen at hl
  clear hs hv
  go_enter Tryz.func24, Tryz.ntmps24
  go_wp2_with fail
  go_loopw [3, 4] (fun v i wr => ∃ (k : Nat) (vv : Value), vv = v ∧ k ≤ xs.length ∧ k ≤ 6 ∧ i = .int .i64 k ∧ Below w.heap.size w wr ∧ Sr wr w.heap.size vv ((xs.take k).map fun s => (s.1 % 1048512, s.2 % 40))) (fun _ i _ => 6 - (D.iv i).toNat)
  case atStart => exact ⟨0, _, rfl, by omega, by omega, rfl, Below.refl _ _, World.ownsRow_nil _ _ _ _⟩
  case round =>
    obtain ⟨k, v0, hvv, hk, hk6, rfl, hb, ho⟩ := hrel
    subst hvv
    have HBr : Hid (Below w.heap.size w wr) := hb
    have HO : Hid (Sr wr w.heap.size v0 ((xs.take k).map fun s => (s.1 % 1048512, s.2 % 40))) := ho
    clear hb ho
    by_cases hlt : k < xs.length ∧ k < 6
    case' pos =>
      obtain ⟨hlt, hlt6⟩ := hlt
      obtain ⟨b, off, rfl, d1, d2⟩ := HS.out.at' hlt
      have hbw : b < w.heap.size := World.block_lt_of_cell? w _ d1
      have c1 := (HBr.out.cell (p := ⟨b, off + k * 2, none⟩) hbw).trans d1
      have c2 := (HBr.out.cell (p := ⟨b, off + k * 2 + 1, none⟩) hbw).trans d2
      clear d1 d2
      obtain ⟨⟨m0, m1⟩, m2, m3⟩ := HV.out xs[k] (List.getElem_mem hlt)
      have HT : Hid ((xs.take (k + 1)).map (fun s : Int × Int => (s.1 % 1048512, s.2 % 40)) = (xs.take k).map (fun s : Int × Int => (s.1 % 1048512, s.2 % 40)) ++ [(xs[k].1 % 1048512, xs[k].2 % 40)]) := ftd_take hlt
      have hln : ((xs.take k).map (fun s : Int × Int => (s.1 % 1048512, s.2 % 40))).length = k := by simp; omega
      generalize xs[k].1 = a at *
      generalize xs[k].2 = n at *
      generalize (xs.take k).map (fun s : Int × Int => (s.1 % 1048512, s.2 % 40)) = L at *
      have m1 := Int.lt_add_one_of_le m1
      have m3 := Int.lt_add_one_of_le m3
      have BO : Hid (∀ o : Obj, Below wr.heap.size wr (wr.alloc o).drew) := fun o => ((Below.refl _ _).alloc (Nat.le_refl _) _).drew
      have HOx : Hid (∀ o : Obj, World.ownsRow (wr.alloc o).drew w.heap.size 74 2 v0 L.length (A.flat L)) := fun o => row_eq HO.out (fun g hg => (BO.out o).block g (row_lt HO.out g hg).2)
      have CK : Hid (∀ o : Obj, (wr.alloc o).drew.cell? ⟨b, off + k * 2, none⟩ = some (.int .i64 a) ∧ (wr.alloc o).drew.cell? ⟨b, off + k * 2 + 1, none⟩ = some (.int .i64 n)) := fun o => ⟨((BO.out o).cell (p := ⟨b, off + k * 2, none⟩) (World.block_lt_of_cell? wr _ c1)).trans c1, ((BO.out o).cell (p := ⟨b, off + k * 2 + 1, none⟩) (World.block_lt_of_cell? wr _ c2)).trans c2⟩
      have HN1 : Hid (∀ j u, ([.int .i64 (a % 1048512), .int .i64 (n % 40)] : List Value)[j]? = some u → (wr.alloc (.cells #[.int .i64 (a % 1048512), .int .i64 (n % 40)] 74)).drew.cell? ((⟨wr.heap.size, 0, none⟩ : Addr).add j) = some u) := cell_new wr [.int .i64 (a % 1048512), .int .i64 (n % 40)] 74 _ rfl
      have HT1 : Hid (∀ u ∈ ([.int .i64 (a % 1048512), .int .i64 (n % 40)] : List Value), u.oneCell' = true) := by unfold Hid; simp [Value.oneCell']
      have HL1 : Hid (L.length + 1 ≤ maxLen ∧ (L.length + 1) * 16 ≤ 140737488355328 ∧ True) := ⟨by unfold maxLen; omega, by omega, trivial⟩
      have HNB : Hid (some b ≠ v0.ownBlock) := fun e => by have := (row_lt HO.out b e.symm).1; omega
      have ix1 : (0 : Int) ≤ (k : Int) := Int.natCast_nonneg k
      have ix2 : (k : Int) < (xs.length : Int) := Int.ofNat_lt.2 hlt
      have hsz := HBr.out.size
      have hbl : b < wr.heap.size := World.block_lt_of_cell? wr _ c1
      go_wp2_with fail
      go_region_held_law (fun W => W.cell? ⟨b, off + k * 2, none⟩ = some (.int .i64 a) ∧ W.cell? ⟨b, off + k * 2 + 1, none⟩ = some (.int .i64 n))
        (first | exact ⟨c1, c2⟩ | exact CK.out _ | exact HS5.out)
        (first
          | (go_at_call 10; refine (Within_any _ _ (by decide) (by decide) (by first | exact m0 | exact m2) (by first | exact m1 | exact m3) _).mono ?_; rintro e w' ⟨rfl, rfl⟩)
          | (refine step_append_lies _ rfl (.tmp 15) (.tmp 29) 36 rfl w.heap.size 74 i0 _ 2 16 Tryz.underlying36 hi0 hz0 hz1 hz2 rfl (by decide) v0 L.length (A.flat L) rfl (HOx.out _) ⟨wr.heap.size, 0, none⟩ 1 1 [.int .i64 (a % 1048512), .int .i64 (n % 40)] rfl rfl HN1.out HT1.out (by decide) HL1.out.1 HL1.out.2.1 (by simp; omega) (wr.heap.size + 1) (by simp) ?_; intro g' cap' w5 h2 h3 h4 h5; have H2 : Hid (World.ownsRow _ _ _ _ _ _ _) := h2; have H3 : Hid (World.grownBy _ _ _) := h3; have HS5 : Hid (w5.cell? ⟨b, off + k * 2, none⟩ = some (.int .i64 a) ∧ w5.cell? ⟨b, off + k * 2 + 1, none⟩ = some (.int .i64 n)) := ⟨h3.cell (CK.out _).1 HNB.out, h3.cell (CK.out _).2 HNB.out⟩; clear h2 h3 h4 h5))
      go_wp2
      go_roundw
      case rel =>
        refine ⟨k + 1, _, rfl, by omega, by omega, by go_num, ?_, ?_⟩
        · exact grown_below H3.out (HBr.out.trans ((BO.out _).mono hsz)) (fun x hx => (row_lt HO.out x hx).1) (by simp; omega)
        · rw [HT.out]
          have := Sr.push (x := (a % 1048512, n % 40)) H2.out
          rw [hln] at this
          exact this
      case measure => simp [D.iv]; omega
    case' neg =>
      have e0 : (xs.take k).map (fun s : Int × Int => (s.1 % 1048512, s.2 % 40)) = ftd xs := by
        unfold ftd
        congr 1
        by_cases h6 : k < 6
        · obtain rfl : k = xs.length := by omega
          rw [List.take_length, List.take_of_length_le (by omega)]
        · obtain rfl : k = 6 := by omega
          rfl
      rw [e0] at HO
      clear e0
      have h3 : (¬ k < xs.length) ∨ (k < xs.length ∧ ¬ k < 6) := by omega
      rcases h3 with h3 | ⟨h3, h3'⟩
      all_goals
        go_wp2
        go_ret
        exact ⟨_, rfl, HO.out, HBr.out⟩
end Go.Proofs.YtiegcncpgjnpbaaGreat.Pg
namespace Go.Proofs.YtiegcncpgjnpbaaGreat.Pg
open P E Go.ChangeShapes Go.WideShapes Go.ChangeAt Go.RowKit
set_option linter.unusedVariables false
set_option maxRecDepth 8192

def Rd8 (w : World) (v : Value) (l : List (Nat × Int)) : Prop := ∃ a cap, v = .slice a l.length cap ∧ (l = [] ∨ ∃ b, a = some ⟨b, 0, none⟩ ∧ b < w.heap.size ∧ ∀ (i : Nat) (x : Nat × Int), l[i]? = some x → ∀ j, j < 8 → w.cell? ⟨b, i * 8 + j, none⟩ = (mc x)[j]?)
theorem Rd8.at' {w w' : World} {a : Option Addr} {n cap : Nat} {l : List (Nat × Int)} (h : Rd8 w (.slice a n cap) l) (k : Below w.heap.size w w') {i : Nat} {x : Nat × Int} (hx : l[i]? = some x) : ∃ b, a = some ⟨b, 0, none⟩ ∧ b < w.heap.size ∧ ∀ j, j < 8 → w'.cell? ⟨b, i * 8 + j, none⟩ = (mc x)[j]? := by
  obtain ⟨a', c', e, h⟩ := h
  obtain ⟨rfl, _, _⟩ : a = a' ∧ n = l.length ∧ cap = c' := by simpa using e
  rcases h with rfl | ⟨b, rfl, hb, h⟩
  · simp at hx
  · exact ⟨b, rfl, hb, fun j hj => (k.cell (p := ⟨b, i * 8 + j, none⟩) hb).trans (h i x hx j hj)⟩
theorem Mr.rd {w : World} {base : Nat} {v : Value} {l : List (Nat × Int)} (h : Mr w base v l) : Rd8 w v l := by
  obtain ⟨h0, ⟨rfl, hn⟩ | ⟨g, cap, cur, rfl, hb, hw, hc, hm, hs, ht⟩⟩ := h
  · have : l = [] := List.eq_nil_of_length_eq_zero hn
    subst this
    exact ⟨none, 0, rfl, Or.inl rfl⟩
  · refine ⟨_, cap, rfl, Or.inr ⟨g, rfl, (Array.getElem?_eq_some_iff.1 hw).1, fun i x hx j hj => ?_⟩⟩
    have hi : i < l.length := (List.getElem?_eq_some_iff.1 hx).1
    rw [cell_of_row w g (i * 8 + j) cur 76 (0, 0) hw, ← Array.getElem?_toList, ← enM_get l i x hx j hj, ← ht, List.getElem?_take_of_lt (by omega)]
theorem mc_at (x : Nat × Int) : ∃ b1 b2 b3 b4 b5 b6 a, mc x = [.int .i64 (x.1 : Nat), .bool b1, .bool b2, .bool b3, .bool b4, .bool b5, .bool b6, .int .i64 a] := ⟨_, _, _, _, _, _, _, rfl⟩
theorem cells8 {W : World} {g o : Nat} {p : Value} {b1 b2 b3 b4 b5 b6 : Bool} {a : Int} {x : Nat × Int} (e : mc x = [p, .bool b1, .bool b2, .bool b3, .bool b4, .bool b5, .bool b6, .int .i64 a]) (h : ∀ j, j < 8 → W.cell? ⟨g, o + j, none⟩ = (mc x)[j]?) : W.cell? ⟨g, o, none⟩ = some p ∧ W.cell? ⟨g, o + 1, none⟩ = some (.bool b1) ∧ W.cell? ⟨g, o + 2, none⟩ = some (.bool b2) ∧ W.cell? ⟨g, o + 3, none⟩ = some (.bool b3) ∧ W.cell? ⟨g, o + 4, none⟩ = some (.bool b4) ∧ W.cell? ⟨g, o + 5, none⟩ = some (.bool b5) ∧ W.cell? ⟨g, o + 6, none⟩ = some (.bool b6) ∧ W.cell? ⟨g, o + 7, none⟩ = some (.int .i64 a) := by
  rw [e] at h
  exact ⟨h 0 (by decide), h 1 (by decide), h 2 (by decide), h 3 (by decide), h 4 (by decide), h 5 (by decide), h 6 (by decide), h 7 (by decide)⟩
set_option maxHeartbeats 1000000 in
theorem without_ok {w : World} {v : Value} {l : List (Nat × Int)} (h : Rd8 w v l) (hl : l.length ≤ 4096) (pg : Int) :
    Calls Tryz.prog 30 #[v, .int .i64 pg] w fun e w' => ∃ v', e = .returned v' ∧ Mr w' w.heap.size v' (wot pg l) ∧ Below w.heap.size w w' := by
  obtain ⟨a, cap, rfl, _⟩ := id h
  have HR : Hid (Rd8 w (.slice a l.length cap) l) := h
  clear h
  obtain ⟨i0, hi0, hz0, hz1, hz2⟩ := info_parts Tryz.infoM
  go_enter Tryz.func30, Tryz.ntmps30
  go_wp2_with fail
  go_loopw [5, 6] (fun u i wr => ∃ (k : Nat) (vv : Value), vv = u ∧ k ≤ l.length ∧ i = .int .i64 k ∧ Below w.heap.size w wr ∧ Mr wr w.heap.size vv (wot pg (l.take k))) (fun _ i _ => l.length - (D.iv i).toNat)
  case atStart => exact ⟨0, _, rfl, by omega, rfl, Below.refl _ _, mr_nil _ _⟩
  case round =>
    obtain ⟨k, v0, hvv, hk, rfl, hb, hm⟩ := hrel
    subst hvv
    have HBr : Hid (Below w.heap.size w wr) := hb
    have HMr : Hid (Mr wr w.heap.size v0 (wot pg (l.take k))) := hm
    have hsz := hb.size
    clear hb hm
    by_cases hlt : k < l.length
    case' pos =>
      obtain ⟨x, hx⟩ : ∃ x, l[k]? = some x := ⟨_, List.getElem?_eq_getElem hlt⟩
      obtain ⟨b, rfl, hbw, hc⟩ := HR.out.at' HBr.out hx
      obtain ⟨b1, b2, b3, b4, b5, b6, xa, hmc⟩ := mc_at x
      obtain ⟨c0, c1, c2, c3, c4, c5, c6, c7⟩ := cells8 hmc hc
      have HMC : Hid (mc x = [.int .i64 (x.1 : Nat), .bool b1, .bool b2, .bool b3, .bool b4, .bool b5, .bool b6, .int .i64 xa]) := hmc
      have htk : l.take (k + 1) = l.take k ++ [x] := by rw [List.take_add_one, hx]; rfl
      have HT : Hid (wot pg (l.take (k + 1)) = if (x.1 : Int) = pg then wot pg (l.take k) else wot pg (l.take k) ++ [x]) := by unfold Hid; rw [htk, wot_snoc]
      have HLE : Hid ((wot pg (l.take k)).length ≤ 4096) := by
        unfold Hid wot
        have := List.length_filter_le (fun x : Nat × Int => decide ((x.1 : Int) ≠ pg)) (l.take k)
        have : (l.take k).length ≤ l.length := by rw [List.length_take]; omega
        omega
      clear hmc hc htk hx
      have ix1 : (0 : Int) ≤ (k : Int) := Int.natCast_nonneg k
      have ix2 : (k : Int) < (l.length : Int) := Int.ofNat_lt.2 hlt
      by_cases he : (x.1 : Int) = pg
      case' pos =>
        rw [if_pos he] at HT
        have hne : ((x.1 : Int) != pg) = false := by simp [he]
        clear HMC
        go_wp2
        go_roundw
        case rel => exact ⟨k + 1, v0, rfl, by omega, by go_num, HBr.out, by rw [HT.out]; exact HMr.out⟩
        case measure => simp [D.iv]; omega
      case' neg =>
        rw [if_neg he] at HT
        have hne : ((x.1 : Int) != pg) = true := by simp [he]
        generalize wot pg (l.take k) = LL at *
        have HOx : Hid (∀ o : Obj, World.ownsRow (wr.alloc o) w.heap.size 76 8 v0 LL.length (enM LL)) := fun o => HMr.out.below ((Below.refl _ _).alloc (Nat.le_refl _) _)
        go_wp2_with (at_builtin; refine wpList_append_lies _ rfl (.tmp 20) (.tmp 25) 64 rfl w.heap.size 76 i0 _ 8 24 Tryz.underlying64 hi0 hz0 hz1 hz2 rfl (by decide) v0 LL.length _ rfl (HOx.out _) _ 1 1 [.int .i64 (x.1 : Nat), .bool b1, .bool b2, .bool b3, .bool b4, .bool b5, .bool b6, .int .i64 xa] rfl rfl (cell_new _ _ _ _ (by simp)) (by simp [Value.oneCell']) (by decide) (by unfold maxLen; have := HLE.out; omega) (by have := HLE.out; omega) (by simp; omega) (wr.heap.size + 1) (by simp) ?_; intro g' cap' w5 h2 h3 h4 h5; have H2 : Hid (World.ownsRow _ _ _ _ _ _ _) := h2; have H3 : Hid (World.grownBy _ _ _) := h3; clear h2 h3 h4 h5)
        go_roundw
        case rel =>
          refine ⟨k + 1, _, rfl, by omega, by go_num, ?_, ?_⟩
          · exact grown_below H3.out (HBr.out.trans (((Below.refl _ _).alloc (Nat.le_refl _) _).mono hsz)) (fun x hx => (HMr.out.own_lt x hx).1) (by simp; omega)
          · rw [HT.out]
            exact Mr.push HMC.out H2.out
        case measure => simp [D.iv]; omega
    case' neg =>
      obtain rfl : k = l.length := by omega
      rw [List.take_length] at HMr
      go_wp2
      go_ret
      exact ⟨_, rfl, HMr.out, HBr.out⟩
set_option maxHeartbeats 1000000 in
theorem kept_ok {w : World} {v : Value} {l : List (Nat × Int)} (h : Rd8 w v l) (hl : l.length ≤ 4096) (hp : ∀ x ∈ l, x.1 < 1048576) {ao : Option Addr} {cap2 : Nat} {xs : List (Int × Int)} (hs : Spn w ao xs) (hl2 : xs.length ≤ 1024) (hv : ∀ s ∈ xs, A.mayS s = true) :
    Calls Tryz.prog 28 #[v, .slice ao xs.length cap2] w fun e w' => ∃ v', e = .returned v' ∧ Mr w' w.heap.size v' (kpt xs l) ∧ Below w.heap.size w w' := by
  obtain ⟨a, cap, rfl, _⟩ := id h
  have HR : Hid (Rd8 w (.slice a l.length cap) l) := h
  have HP : Hid (∀ x ∈ l, x.1 < 1048576) := hp
  have CH : Hid (∀ W (pg : Int), Below w.heap.size w W → 0 ≤ pg → pg < 2097152 → Calls Tryz.prog 77 #[.slice ao xs.length cap2, .int .i64 pg] W fun e w' => e = .returned (.bool (hasS xs pg)) ∧ Below W.heap.size W w') := fun W pg hW h0 h1 => has_ok (hs.below hW) hl2 hv pg h0 h1
  clear h hp hs hv
  obtain ⟨i0, hi0, hz0, hz1, hz2⟩ := info_parts Tryz.infoM
  go_enter Tryz.func28, Tryz.ntmps28
  go_wp2_with fail
  go_loopw [5, 6] (fun u i wr => ∃ (k : Nat) (vv : Value), vv = u ∧ k ≤ l.length ∧ i = .int .i64 k ∧ Below w.heap.size w wr ∧ Mr wr w.heap.size vv (kpt xs (l.take k))) (fun _ i _ => l.length - (D.iv i).toNat)
  case atStart => exact ⟨0, _, rfl, by omega, rfl, Below.refl _ _, mr_nil _ _⟩
  case round =>
    obtain ⟨k, v0, hvv, hk, rfl, hb, hm⟩ := hrel
    subst hvv
    have HBr : Hid (Below w.heap.size w wr) := hb
    have HMr : Hid (Mr wr w.heap.size v0 (kpt xs (l.take k))) := hm
    have hsz := hb.size
    clear hb hm
    by_cases hlt : k < l.length
    case' pos =>
      obtain ⟨x, hx⟩ : ∃ x, l[k]? = some x := ⟨_, List.getElem?_eq_getElem hlt⟩
      obtain ⟨b, rfl, hbw, hc⟩ := HR.out.at' HBr.out hx
      have HC : Hid (∀ W, Below w.heap.size w W → ∀ j, j < 8 → W.cell? ⟨b, k * 8 + j, none⟩ = (mc x)[j]?) := fun W hW => by
        obtain ⟨b', e, _, h'⟩ := HR.out.at' hW hx
        obtain rfl : b = b' := by simpa using e
        exact h'
      obtain ⟨b1, b2, b3, b4, b5, b6, xa, hmc⟩ := mc_at x
      obtain ⟨c0, c1, c2, c3, c4, c5, c6, c7⟩ := cells8 hmc hc
      have hx20 := HP.out x (List.mem_of_getElem? hx)
      have HMC : Hid (mc x = [.int .i64 (x.1 : Nat), .bool b1, .bool b2, .bool b3, .bool b4, .bool b5, .bool b6, .int .i64 xa]) := hmc
      have htk : l.take (k + 1) = l.take k ++ [x] := by rw [List.take_add_one, hx]; rfl
      have HT : Hid (kpt xs (l.take (k + 1)) = if nd xs 3 (x.1 / 32) = true then kpt xs (l.take k) ++ [x] else kpt xs (l.take k)) := by unfold Hid; rw [htk, kpt_snoc]
      have HLE : Hid ((kpt xs (l.take k)).length ≤ 4096) := by
        unfold Hid kpt
        have := List.length_filter_le (fun x : Nat × Int => nd xs 3 (x.1 / 32)) (l.take k)
        have : (l.take k).length ≤ l.length := by rw [List.length_take]; omega
        omega
      clear hmc hc htk hx
      have ix1 : (0 : Int) ≤ (k : Int) := Int.natCast_nonneg k
      have ix2 : (k : Int) < (l.length : Int) := Int.ofNat_lt.2 hlt
      have HAN : Hid (ath xs ((x.1 : Int) / 32 * 32) 32 = nd xs 3 (x.1 / 32)) := by
        have := ath_nd (xs := xs) (x.1 / 32)
        rw [show ((x.1 / 32 : Nat) : Int) = (x.1 : Int) / 32 by omega] at this
        exact this
      have hlf0 : 0 ≤ (x.1 : Int) / 32 * 32 := by omega
      have hlf1 : (x.1 : Int) / 32 * 32 < 1048576 := by omega
      go_wp2_with fail
      generalize (x.1 : Int) / 32 * 32 = lf at *
      generalize nd xs 3 (x.1 / 32) = ndv at *
      generalize kpt xs (l.take k) = LL at *
      clear c0 c1 c2 c3 c4 c5 c6 c7
      go_loopw [8, 9] (fun th i wr => ∃ (n : Nat) (bt : Bool), n ≤ 32 ∧ i = .int .i64 n ∧ th = .bool bt ∧ ath xs lf n = bt ∧ Below w.heap.size w wr ∧ Mr wr w.heap.size v0 LL) (fun _ i _ => 32 - (D.iv i).toNat)
      case atStart => exact ⟨0, false, by omega, rfl, rfl, rfl, HBr.out, HMr.out⟩
      case round =>
        obtain ⟨n, bt, hn, rfl, rfl, hbt, hb, hm⟩ := hrel
        have HBT : Hid (ath xs lf n = bt) := hbt
        have HBq : Hid (Below w.heap.size w wr) := hb
        have HMq : Hid (Mr wr w.heap.size v0 LL) := hm
        have hsz2 := hb.size
        clear hb hm hbt HBr HMr hsz
        by_cases hlt2 : n < 32
        case' pos =>
          have ch := CH.out wr (lf + (n : Int)) HBq.out (by omega) (by omega)
          have CHn : Hid (Calls Tryz.prog 77 #[.slice ao xs.length cap2, .int .i64 (lf + (n : Int))] wr fun e w' => e = .returned (.bool (hasS xs (lf + (n : Int)))) ∧ Below wr.heap.size wr w') := ch
          have HAS : Hid (ath xs lf (n + 1) = (bt || hasS xs (lf + (n : Int)))) := by unfold Hid; rw [← HBT.out]; rfl
          clear ch
          generalize hasS xs (lf + (n : Int)) = hb' at *
          cases bt
          case' false =>
            go_wp2_with (go_at_call 77; refine CHn.out.mono ?_; rintro e w5 ⟨rfl, hb5⟩; have HB5 : Hid (Below w.heap.size w w5) := HBq.out.trans (hb5.mono HBq.out.size); have HM5 : Hid (Mr w5 w.heap.size v0 LL) := HMq.out.below hb5; clear hb5)
            go_roundw
            case rel => exact ⟨n + 1, hb', by omega, by go_num, rfl, HAS.out, HB5.out, HM5.out⟩
            case measure => simp [D.iv]; omega
          case' true =>
            go_wp2
            go_roundw
            case rel => exact ⟨n + 1, true, by omega, by go_num, rfl, HAS.out, HBq.out, HMq.out⟩
            case measure => simp [D.iv]; omega
        case' neg =>
          obtain rfl : n = 32 := by omega
          rw [HAN.out] at HBT
          cases bt
          case' false =>
            rw [HBT.out] at HT
            have HT2 : Hid (kpt xs (l.take (k + 1)) = LL) := by rw [if_neg (by decide)] at HT; exact HT
            clear HT
            go_wp2
            go_roundw
            case rel => exact ⟨k + 1, v0, rfl, by omega, by go_num, HBq.out, by rw [HT2.out]; exact HMq.out⟩
            case measure => simp [D.iv]; omega
          case' true =>
            rw [HBT.out] at HT
            have HT2 : Hid (kpt xs (l.take (k + 1)) = LL ++ [x]) := by rw [if_pos rfl] at HT; exact HT
            obtain ⟨c0, c1, c2, c3, c4, c5, c6, c7⟩ := cells8 HMC.out (HC.out wr HBq.out)
            have HOx : Hid (∀ o : Obj, World.ownsRow (wr.alloc o) w.heap.size 76 8 v0 LL.length (enM LL)) := fun o => HMq.out.below ((Below.refl _ _).alloc (Nat.le_refl _) _)
            clear HT
            go_wp2_with (at_builtin; refine wpList_append_lies _ rfl (.tmp 36) (.tmp 41) 64 rfl w.heap.size 76 i0 _ 8 24 Tryz.underlying64 hi0 hz0 hz1 hz2 rfl (by decide) v0 LL.length _ rfl (HOx.out _) _ 1 1 [.int .i64 (x.1 : Nat), .bool b1, .bool b2, .bool b3, .bool b4, .bool b5, .bool b6, .int .i64 xa] rfl rfl (cell_new _ _ _ _ (by simp)) (by simp [Value.oneCell']) (by decide) (by unfold maxLen; have := HLE.out; omega) (by have := HLE.out; omega) (by simp; omega) (wr.heap.size + 1) (by simp) ?_; intro g' cap' w5 h2 h3 h4 h5; have H2 : Hid (World.ownsRow _ _ _ _ _ _ _) := h2; have H3 : Hid (World.grownBy _ _ _) := h3; clear h2 h3 h4 h5)
            go_roundw
            case rel =>
              refine ⟨k + 1, _, rfl, by omega, by go_num, ?_, ?_⟩
              · exact grown_below H3.out (HBq.out.trans (((Below.refl _ _).alloc (Nat.le_refl _) _).mono hsz2)) (fun x hx => (HMq.out.own_lt x hx).1) (by simp; omega)
              · rw [HT2.out]
                exact Mr.push HMC.out H2.out
            case measure => simp [D.iv]; omega
    case' neg =>
      obtain rfl : k = l.length := by omega
      rw [List.take_length] at HMr
      go_wp2
      go_ret
      exact ⟨_, rfl, HMr.out, HBr.out⟩
end Go.Proofs.YtiegcncpgjnpbaaGreat.Pg
