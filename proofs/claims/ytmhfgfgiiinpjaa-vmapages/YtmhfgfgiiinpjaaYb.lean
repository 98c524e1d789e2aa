/- The statements' seen: what a list says of sixty pages; no condition but those named. -/
import Derived.Test.YtmhfgfgiiinpjaaYa
namespace Go.Proofs.Ytmhfgfgiiinpjaa.V
open Go.ChangeShapes Go.WideShapes Go.ChangeAt Go.RowKit
set_option linter.unusedVariables false
set_option maxRecDepth 8192

theorem fo_at {l : List Rg} (h : Rs l) (x : Int) : (∃ r, fo l x = (r, true) ∧ r ∈ l ∧ at_ l x = some r.m) ∨ (fo l x = (z3, false) ∧ at_ l x = none) := by
  have hf := at_fnd l x
  unfold fo
  cases hq : fnd l x with
  | none =>
    rw [hq] at hf
    exact Or.inr ⟨rfl, hf⟩
  | some r =>
    rw [hq] at hf
    exact Or.inl ⟨r, rfl, fnd_mem hq, hf⟩
theorem zero60 (w : World) (Z : Array Value) (hZ : Z = A60 (fun _ => 0)) : Bl (w.alloc (.cells Z 53)) w.heap.size (fun _ => 0) := by
  subst hZ
  exact heap_alloc_last w _
theorem Bl.other {W : World} {b : Nat} {f : Nat → Int} (h : Bl W b f) {a : Addr} (ha : b ≠ a.block) (v : Value) : Bl (W.setCell a v) b f := (Below.heap_setCell W a v b ha).trans h
/-- What of the pages was looked at. -/
def sn (l : List Rg) (k : Nat) : Nat → Int := fun j => if j < k then enc (at_ l j) else 0
set_option maxHeartbeats 4000000 in
theorem seen_ok {w : World} {ao : Option Addr} {cap : Nat} {l : List Rg} (h : Ri w ao cap l) (hM : May l) :
    Calls Try.prog 32 #[.slice ao l.length cap] w fun e w' => e = .returned (.agg (A60 (fun j => enc (at_ l j)))) ∧ Below w.heap.size w w' := by
  have CF : Hid (∀ W (k : Nat), Below w.heap.size w W → k < 60 → Calls Try.prog 22 #[.slice ao l.length cap, .int .i64 (k : Nat)] W fun e w' => e = .returned (.tuple #[rv (fo l k).1, .bool (fo l k).2, .int .i64 0]) ∧ Below W.heap.size W w') := fun W k hW hk => by
    have := Find_ok (h.below hW) (k : Nat)
    have e : fiV l (k : Nat) = ((fo l (k : Nat)).1, (fo l (k : Nat)).2, 0) := by
      unfold fiV
      rw [if_neg (fun q => q (chk_may.2 hM)), if_neg (by omega)]
    rw [e] at this
    exact this
  have HS : Hid (Rs l) := hM.2.rs
  clear h hM
  go_enter Try.func32, Try.ntmps32
  go_wp2_with fail
  go_loopw [4] (fun i wr => ∃ k : Nat, k ≤ 60 ∧ i = .int .i64 k ∧ Hid (Bl wr (w.heap.size + 1) (sn l k)) ∧ Hid (Bl wr w.heap.size (fun _ => 0)) ∧ Below w.heap.size w wr) (fun i _ => 60 - (iv i).toNat)
  case atStart =>
    refine ⟨0, by omega, rfl, ?_, ?_, (below2 w _ _)⟩
    · have := zero60 (w.alloc (.cells (A60 (fun _ => 0)) 53)) _ rfl
      rw [World.size_alloc] at this
      exact this
    · exact (zero60 w _ rfl).below (below1 _ _)
  case round =>
    obtain ⟨k, hk, rfl, H3, H2, hb⟩ := hrel
    have HB : Hid (Below w.heap.size w wr) := hb
    have ix1 : (0 : Int) ≤ (k : Int) := Int.natCast_nonneg k
    by_cases hlt : k < 60
    case neg =>
      obtain rfl : k = 60 := by omega
      have hf3 : Bl wr (w.heap.size + 1) (fun j => enc (at_ l j)) := H3.out.congr (fun j hj => if_pos hj)
      have HF3 : Hid (wr.heap[w.heap.size + 1]? = some (.cells (A60 (fun j => enc (at_ l j))) 53 (0, 0))) := hf3
      have HZ2 : Hid (wr.heap[w.heap.size]? = some (.cells (A60 (fun _ => 0)) 53 (0, 0))) := H2.out
      clear hf3
      clear hb
      have HZ : Hid ((A60 (fun j => enc (at_ l j))).all (·.oneCell') = true) := by
        unfold Hid A60
        simp [Value.oneCell']
      have HSz : Hid ((A60 (fun _ => 0)).size = (A60 (fun j => enc (at_ l j))).size) := (A60_size _).trans (A60_size _).symm
      have HI : Hid ((Try.prog.info? 53).map (·.size) = some (A60 (fun j => enc (at_ l j))).size) := Try.sizeB.trans (congrArg some (A60_size _).symm)
      generalize hG : A60 (fun j => enc (at_ l j)) = G at HF3 HZ HSz HI
      have HG : Hid (A60 (fun j => enc (at_ l j)) = G) := hG
      clear hG
      go_wp2_with (first
        | (refine wpList_load_row rfl 53 (.tmp 3) rfl (w.heap.size + 1) rfl 53 G (0, 0) _ HF3.out Try.underlying53 rfl HI.out ?_)
        | (refine wpList_store_row rfl 53 (.tmp 2) (.tmp 29) rfl w.heap.size G rfl rfl 53 _ HZ2.out HI.out HSz.out HZ.out ?_))
      have HE := setRow_heap wr w.heap.size _ G 53 (0, 0) HZ2.out
      have HBF : Hid (Below w.heap.size w (wr.setRow w.heap.size G)) := ⟨HB.out.os, HB.out.tape, HB.out.output, by rw [setRow_size]; exact HB.out.size, fun k hk => by rw [setRow_other _ _ _ _ (Nat.ne_of_lt hk)]; exact HB.out.block k hk⟩
      exact bodyPost_ret (v := .agg G) (results_cell_row Try.results32 _ _ w.heap.size 53 _ (0, 0) _ rfl HE Try.underlying53 rfl HI.out) rfl ⟨by rw [HG.out], HBF.out⟩
    case pos =>
      have ix2 : (k : Int) < 60 := by omega
      rcases fo_at HS.out (k : Nat) with ⟨r, hr, hm, ha⟩ | ⟨hr, ha⟩
      all_goals
        have hF := CF.out wr k hb hlt
        rw [hr] at hF
        have HF : Hid (Calls Try.prog 22 #[.slice ao l.length cap, .int .i64 (k : Nat)] wr fun e w' => _) := hF
        clear hF hr hb
      · have hpm := (HS.out.ok r hm).pm
        obtain ⟨p, n, m⟩ := r
        simp only at hpm ha HF
        unfold rv at HF
        go_wp2_with fail
        refine HF.out.mono ?_
        rintro e w1 ⟨rfl, b1⟩
        have HBn : Hid (∀ o : Obj, Below wr.heap.size wr (w1.alloc o)) := fun o => bal b1 o
        have HB1 : Hid (∀ o : Obj, Below w.heap.size w (w1.alloc o)) := fun o => HB.out.trans ((bal b1 o).mono HB.out.size)
        have q3 : Hid (∀ o : Obj, Bl (w1.alloc o) (w.heap.size + 1) (sn l k)) := fun o => H3.out.below (HBn.out o)
        have q2 : Hid (∀ o : Obj, Bl (w1.alloc o) w.heap.size (fun _ => 0)) := fun o => H2.out.below (HBn.out o)
        have c0 := (q3.out (.cells #[.int .i64 p, .int .i64 n, .int .u8 m] 29)).cell hlt
        have c1 := (q3.out (.cells #[.int .i64 p, .int .i64 n, .int .u8 m] 29)).frozen k
        clear b1 HBn
        unfold prm at hpm
        have HE : Hid (∀ j, sn l (k + 1) j = if j = k then 1 + m else sn l k j) := fun j => by
          unfold sn
          by_cases e : j = k
          · subst e; rw [if_pos (by omega), if_pos rfl, ha]; rfl
          · rw [if_neg e]
            by_cases e2 : j < k
            · rw [if_pos e2, if_pos (by omega)]
            · rw [if_neg e2, if_neg (by omega)]
        rcases hpm with rfl | rfl | rfl
        all_goals
          go_wp2_with fail
          go_roundw
          case rel => exact ⟨k + 1, by omega, by go_num, ((q3.out _).set hlt _).congr (fun j _ => (HE.out j).symm), (q2.out _).other (by simp) _, (HB1.out _).setCell (by simp) _⟩
          case measure => simp [iv]; omega
      · unfold rv at HF
        go_wp2_with fail
        refine HF.out.mono ?_
        rintro e w1 ⟨rfl, b1⟩
        have HBn : Hid (∀ o : Obj, Below wr.heap.size wr (w1.alloc o)) := fun o => bal b1 o
        have HB1 : Hid (∀ o : Obj, Below w.heap.size w (w1.alloc o)) := fun o => HB.out.trans ((bal b1 o).mono HB.out.size)
        have HE : Hid (∀ j, sn l (k + 1) j = sn l k j) := fun j => by
          unfold sn
          by_cases e : j = k
          · subst e; rw [if_pos (by omega), if_neg (by omega), ha]; rfl
          · by_cases e2 : j < k
            · rw [if_pos e2, if_pos (by omega)]
            · rw [if_neg e2, if_neg (by omega)]
        clear b1
        go_wp2_with fail
        go_roundw
        case rel => exact ⟨k + 1, by omega, by go_num, (H3.out.below (HBn.out _)).congr (fun j _ => (HE.out j).symm), H2.out.below (HBn.out _), HB1.out _⟩
        case measure => simp [iv]; omega
end Go.Proofs.Ytmhfgfgiiinpjaa.V
