/- What the reference's New and open give back; no condition but the ranges that each theorem names. -/
import Derived.Test.YtifchflbhdnfaaaGreatVBe
import Derived.Test.YtifchflbhdnfaaaGreatVBd
namespace Go.Proofs.YtifchflbhdnfaaaGreat.B
open Go.ChangeShapes Go.WideShapes Go.ChangeAt Go.RowKit
set_option linter.unusedVariables false
set_option maxRecDepth 8192

/-- What the reference notes of a place: 1 and the order of the block that begins there, or 0. -/
def tn (tk : Nat → Option Nat) (i : Nat) : Int := match tk i with | none => 0 | some o => 1 + (o : Int)
/-- The reference's buddy: its struct at q, the open places at go, the taken ones at gt. -/
structure Rb (w : World) (q go gt n : Nat) (op : Nat → Bool) (tk : Nat → Option Nat) : Prop where
  ql : q < w.heap.size
  ol : go < w.heap.size
  tl : gt < w.heap.size
  c0 : w.cell? ⟨q, 0, none⟩ = some (.slice (some ⟨go, 0, none⟩) n n)
  c1 : w.cell? ⟨q, 1, none⟩ = some (.slice (some ⟨gt, 0, none⟩) n n)
  oc : ∀ i, i < n → w.cell? ⟨go, i, none⟩ = some (.bool (op i))
  tc : ∀ i, i < n → w.cell? ⟨gt, i, none⟩ = some (.int .i64 (tn tk i))
  of : ∀ i, i < n → w.frozen? ⟨go, i, none⟩ = false
  tf : ∀ i, i < n → w.frozen? ⟨gt, i, none⟩ = false
  n1 : q ≠ go
  n2 : q ≠ gt
  n3 : go ≠ gt
  n4 : n ≤ 4096
theorem Rb.of_eq {w w' : World} {q go gt n : Nat} {op : Nat → Bool} {tk : Nat → Option Nat} (h : Rb w q go gt n op tk) (hs : w.heap.size ≤ w'.heap.size) (e0 : w'.heap[q]? = w.heap[q]?) (e1 : w'.heap[go]? = w.heap[go]?) (e2 : w'.heap[gt]? = w.heap[gt]?) : Rb w' q go gt n op tk :=
  ⟨Nat.lt_of_lt_of_le h.ql hs, Nat.lt_of_lt_of_le h.ol hs, Nat.lt_of_lt_of_le h.tl hs, (World.cell?_of_block (w := w) (a := ⟨q, 0, none⟩) e0).trans h.c0, (World.cell?_of_block (w := w) (a := ⟨q, 1, none⟩) e0).trans h.c1,
   fun i hi => (World.cell?_of_block (w := w) (a := ⟨go, i, none⟩) e1).trans (h.oc i hi), fun i hi => (World.cell?_of_block (w := w) (a := ⟨gt, i, none⟩) e2).trans (h.tc i hi),
   fun i hi => (World.frozen?_of_block (w := w) (a := ⟨go, i, none⟩) e1).trans (h.of i hi), fun i hi => (World.frozen?_of_block (w := w) (a := ⟨gt, i, none⟩) e2).trans (h.tf i hi), h.n1, h.n2, h.n3, h.n4⟩
/-- One whose blocks are those of H. -/
def Re (w : World) (H : Nat → Prop) (q n : Nat) (op : Nat → Bool) (tk : Nat → Option Nat) : Prop := ∃ go gt, Rb w q go gt n op tk ∧ ∀ k, H k ↔ k = q ∨ k = go ∨ k = gt
theorem Re.lt {w : World} {H : Nat → Prop} {q n : Nat} {op : Nat → Bool} {tk : Nat → Option Nat} (h : Re w H q n op tk) : ∀ k, H k → k < w.heap.size := by
  obtain ⟨go, gt, h, hH⟩ := h
  intro k hk
  rcases (hH k).1 hk with rfl | rfl | rfl
  · exact h.ql
  · exact h.ol
  · exact h.tl
theorem Re.of_eq {w w' : World} {H : Nat → Prop} {q n : Nat} {op : Nat → Bool} {tk : Nat → Option Nat} (h : Re w H q n op tk) (hs : w.heap.size ≤ w'.heap.size) (e : ∀ k, H k → w'.heap[k]? = w.heap[k]?) : Re w' H q n op tk := by
  obtain ⟨go, gt, h, hH⟩ := h
  exact ⟨go, gt, h.of_eq hs (e q ((hH q).2 (Or.inl rfl))) (e go ((hH go).2 (Or.inr (Or.inl rfl)))) (e gt ((hH gt).2 (Or.inr (Or.inr rfl)))), hH⟩
theorem Re.kept {w w' : World} {H G G' : Nat → Prop} {q n : Nat} {op : Nat → Bool} {tk : Nat → Option Nat} (h : Re w H q n op tk) (k : Kp G G' w w') (hd : ∀ k, H k → ¬ G k) : Re w' H q n op tk :=
  h.of_eq k.size (fun i hi => k.block i (h.lt i hi) (hd i hi))
theorem Re.none {w w' : World} {H : Nat → Prop} {q n : Nat} {op : Nat → Bool} {tk : Nat → Option Nat} (h : Re w H q n op tk) (k : w.grownBy w' none) : Re w' H q n op tk :=
  h.of_eq k.size (fun i hi => k.block i (h.lt i hi) (by simp))
theorem Bu.none {w w' : World} {G : Nat → Prop} {p : Nat} {L : Nat → List Nat} {tk : Nat → Option Nat} (h : Bu w G p L tk) (k : w.grownBy w' none) : Bu w' G p L tk := h.grown k (by simp)
/-! ### New -/
theorem rNew_no (n : Int) (h : n < 0 ∨ 4096 < n) (w : World) : Calls Tryz.prog 35 #[.int .i64 n] w fun e w' => e = .returned (.tuple #[.pointer none, .int .i64 2]) ∧ w' = w := by
  go_enter Tryz.func35, Tryz.ntmps35
  go_wp2
  all_goals (go_ret2; exact ⟨rfl, rfl⟩)
theorem Tryz.infoB : (Tryz.prog.info? 4).map (fun i => (i.zero, i.size, i.bytes)) = some (some (.bool false), 1, 1) := by kernel_rfl
theorem makeB (n : Nat) (hn : n ≤ 4096) (w : World) : (Instr.makeSlice 106 (.int .i64 n) (.int .i64 n)).run Tryz.prog w = .ok (.slice (some ⟨w.heap.size, 0, none⟩) n n) (w.alloc (.cells (List.replicate n (.bool false)).toArray 4)) := by
  obtain ⟨i0, hi, hz0, hz1, hz2⟩ := info_parts Tryz.infoB
  have h := run_makeSlice (P := Tryz.prog) w 106 4 i0 (.bool false) Tryz.underlying106 hi hz0 .i64 .i64 n n (by omega) (by omega) (by rw [hz1]; simp; omega) (by rw [hz2]; omega) (by omega)
  rw [h]
  have e : madeCells (Value.bool false).cells ((n : Int).toNat * i0.size) = (List.replicate n (.bool false)).toArray := by
    apply Array.toList_inj.1
    rw [hz1, Int.toNat_natCast]
    show (madeCells #[.bool false] (n * 1)).toList = _
    rw [toList_madeCells_one, Nat.mul_one]
  rw [e, Int.toNat_natCast]
theorem makeI (n : Nat) (hn : n ≤ 4096) (w : World) : (Instr.makeSlice 25 (.int .i64 n) (.int .i64 n)).run Tryz.prog w = .ok (.slice (some ⟨w.heap.size, 0, none⟩) n n) (w.alloc (.cells (List.replicate n (.int .i64 0)).toArray 3)) := by
  obtain ⟨i0, hi, hz0, hz1, hz2⟩ := info_parts Tryz.infoI
  have h := run_makeSlice (P := Tryz.prog) w 25 3 i0 (.int .i64 0) Tryz.underlying25 hi hz0 .i64 .i64 n n (by omega) (by omega) (by rw [hz1]; simp; omega) (by rw [hz2]; omega) (by omega)
  rw [h]
  have e : madeCells (Value.int .i64 0).cells ((n : Int).toNat * i0.size) = (List.replicate n (.int .i64 0)).toArray := by
    apply Array.toList_inj.1
    rw [hz1, Int.toNat_natCast]
    show (madeCells #[.int .i64 0] (n * 1)).toList = _
    rw [toList_madeCells_one, Nat.mul_one]
  rw [e, Int.toNat_natCast]
/-- What the loop of New has: the first m places are open. -/
def opm (m : Nat) : Nat → Bool := fun i => decide (i < m)
theorem rep_cell {w : World} {g n i : Nat} {ty : TypeId} {v : Value} (h : Blk w g ty (List.replicate n v)) (hi : i < n) : w.cell? ⟨g, i, none⟩ = some v := by
  rw [h.cell i]
  simp [hi]
theorem rb_new {w' : World} {q go gt n : Nat} (hn : n ≤ 4096) (hq : Blk w' q 108 [.slice (some ⟨go, 0, none⟩) n n, .slice (some ⟨gt, 0, none⟩) n n]) (ho : Blk w' go 4 (List.replicate n (.bool false))) (ht : Blk w' gt 3 (List.replicate n (.int .i64 0))) (n1 : q ≠ go) (n2 : q ≠ gt) (n3 : go ≠ gt) : Rb w' q go gt n (opm 0) (fun _ => none) :=
  ⟨hq.lt, ho.lt, ht.lt, hq.cell 0, hq.cell 1, fun i hi => by rw [rep_cell ho hi]; simp [opm], fun i hi => by rw [rep_cell ht hi]; rfl, fun i _ => ho.frozen i, fun i _ => ht.frozen i, n1, n2, n3, hn⟩
theorem Rb.open1 {w : World} {q go gt n : Nat} {op : Nat → Bool} {tk : Nat → Option Nat} (h : Rb w q go gt n op tk) (i : Nat) (hi : i < n) (b : Bool) : Rb (w.setCell ⟨go, i, none⟩ (.bool b)) q go gt n (fun j => if j = i then b else op j) tk := by
  have G := grown_setCell' w go i (.bool b)
  have s : (w.setCell ⟨go, i, none⟩ (.bool b)).heap.size = w.heap.size := by simp [World.setCell]
  refine ⟨by rw [s]; exact h.ql, by rw [s]; exact h.ol, by rw [s]; exact h.tl, (G.cell_far ⟨q, 0, none⟩ h.ql (some_ne h.n1)).trans h.c0, (G.cell_far ⟨q, 1, none⟩ h.ql (some_ne h.n1)).trans h.c1, fun j hj => ?_, fun j hj => (G.cell_far ⟨gt, j, none⟩ h.tl (some_ne (Ne.symm h.n3))).trans (h.tc j hj), fun j hj => by rw [World.frozen?_setCell]; exact h.of j hj, fun j hj => by rw [World.frozen?_setCell]; exact h.tf j hj, h.n1, h.n2, h.n3, h.n4⟩
  by_cases e : j = i
  · subst e
    rw [World.cell?_setCell_same _ _ _ (h.oc j hj), if_pos rfl]
  · rw [World.cell?_setCell_other _ _ _ _ (by intro h; cases h; exact e rfl), if_neg e]
    exact h.oc j hj
theorem Rb.congr {w : World} {q go gt n : Nat} {op op' : Nat → Bool} {tk tk' : Nat → Option Nat} (h : Rb w q go gt n op tk) (e : ∀ i, i < n → op i = op' i) (e' : ∀ i, i < n → tk i = tk' i) : Rb w q go gt n op' tk' :=
  ⟨h.ql, h.ol, h.tl, h.c0, h.c1, fun i hi => by rw [← e i hi]; exact h.oc i hi, fun i hi => by unfold tn; rw [← e' i hi]; exact h.tc i hi, h.of, h.tf, h.n1, h.n2, h.n3, h.n4⟩
set_option maxHeartbeats 1000000 in
theorem rNew_ok (n : Nat) (hn : n ≤ 4096) (w : World) : Calls Tryz.prog 35 #[.int .i64 n] w fun e w' => ∃ H q, e = .returned (.tuple #[.pointer (some ⟨q, 0, none⟩), .int .i64 0]) ∧ Re w' H q n (op0 n) (fun _ => none) ∧ Kp (fun _ => False) H w w' := by
  have m1 := makeB n hn
  have m2 := makeI n hn
  obtain ⟨RB, hRB⟩ : ∃ R, R = List.replicate n (Value.bool false) := ⟨_, rfl⟩
  obtain ⟨RI, hRI⟩ : ∃ R, R = List.replicate n (Value.int .i64 0) := ⟨_, rfl⟩
  rw [← hRB] at m1
  rw [← hRI] at m2
  have HRB : Hid (RB = List.replicate n (Value.bool false)) := hRB
  have HRI : Hid (RI = List.replicate n (Value.int .i64 0)) := hRI
  clear hRB hRI
  go_enter Tryz.func35, Tryz.ntmps35
  go_wp2
  go_region
  · have HR : Hid (Rb (((w.alloc (.cells RB.toArray 4)).alloc (.cells RI.toArray 3)).alloc (.cells #[.slice (some ⟨w.heap.size, 0, none⟩) n n, .slice (some ⟨w.heap.size + 1, 0, none⟩) n n] 108)).drew (w.heap.size + 1 + 1) (w.heap.size) (w.heap.size + 1) n (opm 0) (fun _ => none)) := by
      have b1 := blk_new w RB 4
      have b2 := blk_new (w.alloc (.cells RB.toArray 4)) RI 3
      have b3 := blk_new ((w.alloc (.cells RB.toArray 4)).alloc (.cells RI.toArray 3)) [.slice (some ⟨w.heap.size, 0, none⟩) n n, .slice (some ⟨w.heap.size + 1, 0, none⟩) n n] 108
      have s1 : (w.alloc (.cells RB.toArray 4)).heap.size = w.heap.size + 1 := by simp
      have s2 : ((w.alloc (.cells RB.toArray 4)).alloc (.cells RI.toArray 3)).heap.size = w.heap.size + 1 + 1 := by simp
      rw [s1] at b2
      rw [s2] at b3
      have b2 := b2.kept (World.grownBy_alloc _ (.cells [.slice (some ⟨w.heap.size, 0, none⟩) n n, .slice (some ⟨w.heap.size + 1, 0, none⟩) n n].toArray 108) none) (by simp)
      have b1 := (b1.kept (World.grownBy_alloc _ (.cells RI.toArray 3) none) (by simp)).kept (World.grownBy_alloc _ (.cells [.slice (some ⟨w.heap.size, 0, none⟩) n n, .slice (some ⟨w.heap.size + 1, 0, none⟩) n n].toArray 108) none) (by simp)
      have e1 := HRB.out
      have e2 := HRI.out
      subst e1
      subst e2
      have h := rb_new hn b3 b1 b2 (by omega) (by omega) (by omega)
      exact h.of_eq (Nat.le_refl _) rfl rfl rfl
    have HG : Hid (w.grownBy (((w.alloc (.cells RB.toArray 4)).alloc (.cells RI.toArray 3)).alloc (.cells #[.slice (some ⟨w.heap.size, 0, none⟩) n n, .slice (some ⟨w.heap.size + 1, 0, none⟩) n n] 108)).drew none) := (((World.grownBy_alloc _ _ none).trans (World.grownBy_alloc _ _ none)).trans (World.grownBy_alloc _ _ none)).trans (grown_drew _ _)
    generalize (((w.alloc (.cells RB.toArray 4)).alloc (.cells RI.toArray 3)).alloc (.cells #[.slice (some ⟨w.heap.size, 0, none⟩) n n, .slice (some ⟨w.heap.size + 1, 0, none⟩) n n] 108)).drew = W at *
    clear m1 m2 HRB HRI
    obtain ⟨go, hgo⟩ : ∃ go, go = w.heap.size := ⟨_, rfl⟩
    obtain ⟨gt, hgt⟩ : ∃ gt, gt = w.heap.size + 1 := ⟨_, rfl⟩
    obtain ⟨q, hq⟩ : ∃ q, q = w.heap.size + 1 + 1 := ⟨_, rfl⟩
    have HQ : Hid (w.heap.size ≤ q ∧ w.heap.size ≤ go ∧ w.heap.size ≤ gt) := by
      rw [hgo, hgt, hq]
      exact ⟨by omega, by omega, by omega⟩
    rw [← hq, ← hgt, ← hgo] at HR
    rw [← hq]
    generalize Value.slice (some ⟨w.heap.size, 0, none⟩) n n = X1
    generalize Value.slice (some ⟨w.heap.size + 1, 0, none⟩) n n = X2
    clear hgo hgt hq
    go_wp2
    go_loopw [5] (fun z wr => ∃ m : Nat, m ≤ n ∧ z = .int .i64 m ∧ Rb wr q go gt n (opm m) (fun _ => none) ∧ W.grownBy wr (some go)) (fun z _ => n - (iv z).toNat)
    case atStart => exact ⟨0, by omega, rfl, HR.out, World.grownBy.refl _ _⟩
    case round =>
      obtain ⟨m, hm, rfl, hR, hW⟩ := hrel
      have HRR : Hid (Rb wr q go gt n (opm m) (fun _ => none)) := hR
      have HWW : Hid (W.grownBy wr (some go)) := hW
      by_cases hmn : m < n
      · have d0 := hR.c0
        have d1 := hR.oc m hmn
        have d2 := hR.of m hmn
        have hmI : (m : Int) < (n : Int) := by omega
        clear hR hW
        go_wp2
        go_roundw
        case rel =>
          refine ⟨m + 1, by omega, by go_num, (HRR.out.open1 m hmn true).congr (fun i hi => ?_) (fun _ _ => rfl), HWW.out.trans (grown_setCell' _ _ _ _)⟩
          unfold opm
          by_cases e : i = m
          · subst e
            simp
          · rw [if_neg e]
            congr 1
            apply propext
            omega
        case measure => simp [iv]; omega
      · obtain rfl : m = n := by omega
        clear hR hW
        go_wp2
        go_ret2
        refine ⟨fun k => k = q ∨ k = go ∨ k = gt, q, rfl, ⟨go, gt, HRR.out, fun k => Iff.rfl⟩, ?_⟩
        have h1 := HG.out
        have h2 := HWW.out
        have h3 := HQ.out
        refine ⟨h2.os.trans h1.os, h2.tape.trans h1.tape, h2.output.trans h1.output, Nat.le_trans h1.size h2.size, fun k hk _ => (h2.block k (Nat.lt_of_lt_of_le hk h1.size) (some_ne (by omega))).trans (h1.block k hk (by simp)), ?_⟩
        rintro k (rfl | rfl | rfl)
        · exact Or.inr h3.1
        · exact Or.inr h3.2.1
        · exact Or.inr h3.2.2
  · have HR : Hid (Rb (((w.alloc (.cells RI.toArray 3)).alloc (.cells RB.toArray 4)).alloc (.cells #[.slice (some ⟨w.heap.size + 1, 0, none⟩) n n, .slice (some ⟨w.heap.size, 0, none⟩) n n] 108)).drew (w.heap.size + 1 + 1) (w.heap.size + 1) (w.heap.size) n (opm 0) (fun _ => none)) := by
      have b1 := blk_new w RI 3
      have b2 := blk_new (w.alloc (.cells RI.toArray 3)) RB 4
      have b3 := blk_new ((w.alloc (.cells RI.toArray 3)).alloc (.cells RB.toArray 4)) [.slice (some ⟨w.heap.size + 1, 0, none⟩) n n, .slice (some ⟨w.heap.size, 0, none⟩) n n] 108
      have s1 : (w.alloc (.cells RI.toArray 3)).heap.size = w.heap.size + 1 := by simp
      have s2 : ((w.alloc (.cells RI.toArray 3)).alloc (.cells RB.toArray 4)).heap.size = w.heap.size + 1 + 1 := by simp
      rw [s1] at b2
      rw [s2] at b3
      have b2 := b2.kept (World.grownBy_alloc _ (.cells [.slice (some ⟨w.heap.size + 1, 0, none⟩) n n, .slice (some ⟨w.heap.size, 0, none⟩) n n].toArray 108) none) (by simp)
      have b1 := (b1.kept (World.grownBy_alloc _ (.cells RB.toArray 4) none) (by simp)).kept (World.grownBy_alloc _ (.cells [.slice (some ⟨w.heap.size + 1, 0, none⟩) n n, .slice (some ⟨w.heap.size, 0, none⟩) n n].toArray 108) none) (by simp)
      have e1 := HRB.out
      have e2 := HRI.out
      subst e1
      subst e2
      have h := rb_new hn b3 b2 b1 (by omega) (by omega) (by omega)
      exact h.of_eq (Nat.le_refl _) rfl rfl rfl
    have HG : Hid (w.grownBy (((w.alloc (.cells RI.toArray 3)).alloc (.cells RB.toArray 4)).alloc (.cells #[.slice (some ⟨w.heap.size + 1, 0, none⟩) n n, .slice (some ⟨w.heap.size, 0, none⟩) n n] 108)).drew none) := (((World.grownBy_alloc _ _ none).trans (World.grownBy_alloc _ _ none)).trans (World.grownBy_alloc _ _ none)).trans (grown_drew _ _)
    generalize (((w.alloc (.cells RI.toArray 3)).alloc (.cells RB.toArray 4)).alloc (.cells #[.slice (some ⟨w.heap.size + 1, 0, none⟩) n n, .slice (some ⟨w.heap.size, 0, none⟩) n n] 108)).drew = W at *
    clear m1 m2 HRB HRI
    obtain ⟨go, hgo⟩ : ∃ go, go = w.heap.size + 1 := ⟨_, rfl⟩
    obtain ⟨gt, hgt⟩ : ∃ gt, gt = w.heap.size := ⟨_, rfl⟩
    obtain ⟨q, hq⟩ : ∃ q, q = w.heap.size + 1 + 1 := ⟨_, rfl⟩
    have HQ : Hid (w.heap.size ≤ q ∧ w.heap.size ≤ go ∧ w.heap.size ≤ gt) := by
      rw [hgo, hgt, hq]
      exact ⟨by omega, by omega, by omega⟩
    rw [← hq, ← hgo, ← hgt] at HR
    rw [← hq]
    generalize Value.slice (some ⟨w.heap.size + 1, 0, none⟩) n n = X1
    generalize Value.slice (some ⟨w.heap.size, 0, none⟩) n n = X2
    clear hgo hgt hq
    go_wp2
    go_loopw [5] (fun z wr => ∃ m : Nat, m ≤ n ∧ z = .int .i64 m ∧ Rb wr q go gt n (opm m) (fun _ => none) ∧ W.grownBy wr (some go)) (fun z _ => n - (iv z).toNat)
    case atStart => exact ⟨0, by omega, rfl, HR.out, World.grownBy.refl _ _⟩
    case round =>
      obtain ⟨m, hm, rfl, hR, hW⟩ := hrel
      have HRR : Hid (Rb wr q go gt n (opm m) (fun _ => none)) := hR
      have HWW : Hid (W.grownBy wr (some go)) := hW
      by_cases hmn : m < n
      · have d0 := hR.c0
        have d1 := hR.oc m hmn
        have d2 := hR.of m hmn
        have hmI : (m : Int) < (n : Int) := by omega
        clear hR hW
        go_wp2
        go_roundw
        case rel =>
          refine ⟨m + 1, by omega, by go_num, (HRR.out.open1 m hmn true).congr (fun i hi => ?_) (fun _ _ => rfl), HWW.out.trans (grown_setCell' _ _ _ _)⟩
          unfold opm
          by_cases e : i = m
          · subst e
            simp
          · rw [if_neg e]
            congr 1
            apply propext
            omega
        case measure => simp [iv]; omega
      · obtain rfl : m = n := by omega
        clear hR hW
        go_wp2
        go_ret2
        refine ⟨fun k => k = q ∨ k = go ∨ k = gt, q, rfl, ⟨go, gt, HRR.out, fun k => Iff.rfl⟩, ?_⟩
        have h1 := HG.out
        have h2 := HWW.out
        have h3 := HQ.out
        refine ⟨h2.os.trans h1.os, h2.tape.trans h1.tape, h2.output.trans h1.output, Nat.le_trans h1.size h2.size, fun k hk _ => (h2.block k (Nat.lt_of_lt_of_le hk h1.size) (some_ne (by omega))).trans (h1.block k hk (by simp)), ?_⟩
        rintro k (rfl | rfl | rfl)
        · exact Or.inr h3.1
        · exact Or.inr h3.2.1
        · exact Or.inr h3.2.2
/-! ### open -/
set_option maxHeartbeats 1000000 in
theorem open_any {w : World} {q go gt n : Nat} {op : Nat → Bool} {tk : Nat → Option Nat} (h : Rb w q go gt n op tk) (hl : ∀ i, op i = true → i < n) (a k : Nat) (ha : a ≤ 4096) (hk : k ≤ 6) :
    Calls Tryz.prog 83 #[.pointer (some ⟨q, 0, none⟩), .int .i64 a, .int .i64 k] w fun e w' => ∃ r : Bool, e = .returned (.bool r) ∧ (r = true ↔ ∀ i, a ≤ i → i < a + 2 ^ k → op i = true) ∧ w' = w := by
  have HR : Hid (Rb w q go gt n op tk) := h
  have HL : Hid (∀ i, op i = true → i < n) := hl
  have d0 := h.c0
  have hn := h.n4
  have hsh := shl_wrap k hk
  have hpl := pow_le k hk
  obtain ⟨S, hS⟩ : ∃ S, 2 ^ k = S := ⟨_, rfl⟩
  rw [hS] at hsh hpl ⊢
  clear h hl hS
  by_cases hc : a + S ≤ n
  · have hcI : (a : Int) + (S : Int) ≤ (n : Int) := by omega
    have hwr : IntKind.i64.wrap ((a : Int) + (S : Int)) = (a : Int) + (S : Int) := IntWalk.i64_in _ (by omega)
    go_enter Tryz.func83, Tryz.ntmps83
    go_wp2
    go_loopw [8] (fun z wr => ∃ m : Nat, a ≤ m ∧ m ≤ a + S ∧ z = .int .i64 m ∧ wr = w ∧ ∀ i, a ≤ i → i < m → op i = true) (fun z _ => (a + S) - (iv z).toNat)
    case atStart => exact ⟨a, Nat.le_refl _, by omega, rfl, rfl, fun i h1 h2 => by omega⟩
    case round =>
      obtain ⟨m, h1, h2, rfl, hw, hall⟩ := hrel
      obtain rfl := hw
      have HA : Hid (∀ i, a ≤ i → i < m → op i = true) := hall
      clear hall
      by_cases hm : m < a + S
      · have hmI : (m : Int) < (a : Int) + (S : Int) := by omega
        have hmn : m < n := by omega
        have hmnI : (m : Int) < (n : Int) := by omega
        have d1 := HR.out.oc m hmn
        cases hop : op m with
        | true =>
          have HOP : Hid (op m = true) := hop
          rw [hop] at d1
          clear hop
          go_wp2
          go_roundw
          case rel =>
            refine ⟨m + 1, by omega, by omega, by go_num, by simp, fun i q1 q2 => ?_⟩
            by_cases e : i = m
            · rw [e]; exact HOP.out
            · exact HA.out i q1 (by omega)
          case measure => simp [iv]; omega
        | false =>
          have HOP : Hid (op m = false) := hop
          rw [hop] at d1
          clear hop
          go_wp2
          go_ret
          refine ⟨false, rfl, ?_, rfl⟩
          simp only [Bool.false_eq_true, false_iff]
          intro q
          have := q m h1 hm
          rw [HOP.out] at this
          cases this
      · have hmI : (a : Int) + (S : Int) ≤ (m : Int) := by omega
        go_wp2
        go_ret
        refine ⟨true, rfl, ?_, rfl⟩
        simp only [true_iff]
        exact fun i q1 q2 => HA.out i q1 (by omega)
  · have hcI : (n : Int) < (a : Int) + (S : Int) := by omega
    have hwr : IntKind.i64.wrap ((a : Int) + (S : Int)) = (a : Int) + (S : Int) := IntWalk.i64_in _ (by omega)
    go_enter Tryz.func83, Tryz.ntmps83
    go_wp2
    go_ret
    refine ⟨false, rfl, ?_, rfl⟩
    simp only [Bool.false_eq_true, false_iff]
    intro q
    have := HL.out _ (q (a + S - 1) (by omega) (by omega))
    omega
end Go.Proofs.YtifchflbhdnfaaaGreat.B
