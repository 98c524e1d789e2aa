/- What a core's Touch gives back and leaves; no condition but those named. -/
import Derived.Test.YtkbpnkjjmipjfaaGreatVJa
namespace Go.Proofs.YtkbpnkjjmipjfaaGreat.E
open Go.ChangeShapes Go.WideShapes Go.ChangeAt Go.RowKit
set_option linter.unusedVariables false
set_option maxRecDepth 8192

def AU (w : World) (ao : Option Addr) (l : Nat) (f : Nat → Nat) : Prop := l = 0 ∨ ∃ b off, ao = some ⟨b, off, none⟩ ∧ b < w.heap.size ∧ ∀ i, i < l → w.cell? ⟨b, off + i, none⟩ = some (.int .u64 (f i : Nat))
theorem AU.of_eq {w w' : World} {ao : Option Addr} {l : Nat} {f : Nat → Nat} (h : AU w ao l f) (hs : w.heap.size ≤ w'.heap.size) (e : ∀ b off, ao = some ⟨b, off, none⟩ → b < w.heap.size → w'.heap[b]? = w.heap[b]?) : AU w' ao l f := by
  rcases h with h | ⟨b, off, rfl, hb, hc⟩
  · exact Or.inl h
  · exact Or.inr ⟨b, off, rfl, Nat.lt_of_lt_of_le hb hs, fun i hi => (World.cell?_of_block (w := w) (a := ⟨b, off + i, none⟩) (e b off rfl hb)).trans (hc i hi)⟩
theorem AU.below {w w' : World} {ao : Option Addr} {l : Nat} {f : Nat → Nat} (h : AU w ao l f) (k : Below w.heap.size w w') : AU w' ao l f := h.of_eq k.size (fun b _ _ hb => k.block b hb)
theorem AU.kp {w w' : World} {ao : Option Addr} {l : Nat} {f : Nat → Nat} {X X' : Nat → Prop} (h : AU w ao l f) (k : C.Kp X X' w w') (hX : ∀ b off, ao = some ⟨b, off, none⟩ → ¬ X b) : AU w' ao l f := h.of_eq k.size (fun b off e hb => k.block b hb (hX b off e))
theorem AU.at' {w : World} {ao : Option Addr} {l : Nat} {f : Nat → Nat} (h : AU w ao l f) {i : Nat} (hi : i < l) : ∃ b off, ao = some ⟨b, off, none⟩ ∧ w.cell? ⟨b, off + i, none⟩ = some (.int .u64 (f i : Nat)) := by
  rcases h with h | ⟨b, off, e, _, hc⟩
  · omega
  · exact ⟨b, off, e, hc i hi⟩
structure Tk (X0 : Nat → Prop) (w0 w : World) (p : Nat) (h : Hw) (s : Sc) (r m : Nat) (x y : Bool) : Prop where
  c : ∃ X, Cr pK w X p h s ∧ C.Kp X0 X w0 w ∧ ¬ X r ∧ ¬ X m
  br : C.Blk w r 196 [.bool false, .bool false]
  bm : C.Blk w m 196 [.bool x, .bool y]
  rm : r ≠ m
  hr : w0.heap.size ≤ r
  hm : w0.heap.size ≤ m
theorem Tk.au {X0 : Nat → Prop} {w0 w : World} {p : Nat} {h : Hw} {s : Sc} {r m : Nat} {x y : Bool} (K : Tk X0 w0 w p h s r m x y) {ao : Option Addr} {l : Nat} {f : Nat → Nat} (ha : AU w0 ao l f) (hX : ∀ b off, ao = some ⟨b, off, none⟩ → ¬ X0 b) : AU w ao l f := by
  obtain ⟨X, _, k, _⟩ := K.c
  exact ha.kp k hX
theorem Tk.touch {X0 : Nat → Prop} {w0 w : World} {p : Nat} {h : Hw} {s : Sc} {r m : Nat} {x y : Bool} (K : Tk X0 w0 w p h s r m x y) (pa : Nat) (hp : pa < h.n * 256) :
    Calls Tryz.prog 135 #[.pointer (some ⟨p, 0, none⟩), .int .u64 pa] w fun e w' => e = .returned (.agg #[.bool (hA h s pa), .bool (hB h s pa)]) ∧ Tk X0 w0 w' p h (tou h s pa) r m x y := by
  obtain ⟨X, c, k, nr, nm⟩ := K.c
  refine (touch_ok c pa hp).mono ?_
  rintro e w' ⟨rfl, X', c', k'⟩
  have out : ∀ a, a < w.heap.size → ¬ X a → ¬ X' a := by
    intro a ha hn q
    rcases k'.new a q with q | q
    · exact hn q
    · omega
  exact ⟨rfl, ⟨X', c', k.trans k', out r K.br.lt nr, out m K.bm.lt nm⟩, K.br.of_eq (k'.block r K.br.lt nr), K.bm.of_eq (k'.block m K.bm.lt nm), K.rm, K.hr, K.hm⟩
theorem Tk.met {X0 : Nat → Prop} {w0 w : World} {p : Nat} {h : Hw} {s : Sc} {r m : Nat} {x y : Bool} (K : Tk X0 w0 w p h s r m x y) (i : Nat) (v : Bool) (x' y' : Bool) (e : [Value.bool x, .bool y].set i (.bool v) = [.bool x', .bool y']) :
    Tk X0 w0 (w.setCell ⟨m, i, none⟩ (.bool v)) p h s r m x' y' := by
  obtain ⟨X, c, k, nr, nm⟩ := K.c
  have g := C.grown_setCell' w m i (.bool v)
  have hb := K.bm.set i (.bool v)
  rw [e] at hb
  have hm := K.hm
  refine ⟨⟨X, c.of_eq g.size (fun a ha => g.block a (c.lt a ha) (C.some_ne (fun q => nm (q ▸ ha)))), ⟨g.os.trans k.os, g.tape.trans k.tape, g.output.trans k.output, Nat.le_trans k.size g.size, fun a ha hn => (g.block a (Nat.lt_of_lt_of_le ha k.size) (C.some_ne (by omega))).trans (k.block a ha hn), k.new⟩, nr, nm⟩,
    K.br.kept g (C.some_ne K.rm), hb, K.rm, K.hr, K.hm⟩
theorem Tk.fin {X0 : Nat → Prop} {w0 w : World} {p : Nat} {h : Hw} {s : Sc} {r m : Nat} {x y : Bool} (K : Tk X0 w0 w p h s r m x y) {w9 : World} (u v : Bool) (e : w9 = (w.setCell ⟨r, 0, none⟩ (.bool u)).setCell ⟨r, 1, none⟩ (.bool v)) :
    C.Blk w9 r 196 [.bool u, .bool v] ∧ Gv pK w0 X0 p h s w9 := by
  subst e
  obtain ⟨X, c, k, nr, nm⟩ := K.c
  have b1 := (K.br.set 0 (.bool u)).set 1 (.bool v)
  have g := (C.grown_setCell' w r 0 (.bool u)).trans (C.grown_setCell' (w.setCell ⟨r, 0, none⟩ (.bool u)) r 1 (.bool v))
  have hr := K.hr
  exact ⟨b1, X, c.of_eq g.size (fun a ha => g.block a (c.lt a ha) (C.some_ne (fun q => nr (q ▸ ha)))), ⟨g.os.trans k.os, g.tape.trans k.tape, g.output.trans k.output, Nat.le_trans k.size g.size, fun a ha hn => (g.block a (Nat.lt_of_lt_of_le ha k.size) (C.some_ne (by omega))).trans (k.block a ha hn), k.new⟩⟩
theorem Cr.c3 {w : World} {X : Nat → Prop} {p : Nat} {h : Hw} {s : Sc} (K : Cr pK w X p h s) : ∃ a, w.cell? ⟨p, 3, none⟩ = some (.pointer (some a)) := by
  obtain ⟨G, P, c, rfl, rfl⟩ := K
  exact ⟨_, c.c3⟩
theorem Cr.made {w : World} {X : Nat → Prop} {p : Nat} {h : Hw} {s : Sc} (K : Cr pK w X p h s) : Calls Tryz.prog 69 #[.pointer (some ⟨p, 0, none⟩)] w fun e w' => e = .returned (.bool true) ∧ w' = w := by
  obtain ⟨a, ha⟩ := K.c3
  exact made_ok ha
theorem Cr.mem {w : World} {X : Nat → Prop} {p : Nat} {h : Hw} {s : Sc} (K : Cr pK w X p h s) : ∃ pm gm, w.cell? ⟨p, 0, none⟩ = some (.pointer (some ⟨pm, 0, none⟩)) ∧ F.Mem w pm gm h.n s.m ∧ p < w.heap.size := by
  obtain ⟨G, P, c, rfl, rfl⟩ := K
  exact ⟨_, _, c.c0, c.mm, c.st.lt⟩
theorem res_hit {tmps : Array Value} {w : World} {r : Nat} {x y : Bool} {e : Int} (hp : tmps.getD 4 undef = .pointer (some ⟨r, 0, none⟩)) (he : tmps.getD 5 undef = .int .i64 e) (hb : C.Blk w r 196 [.bool x, .bool y]) :
    (results Tryz.f99 tmps).run Tryz.prog w = .ok (.tuple #[.agg #[.bool x, .bool y], .int .i64 e]) w := by
  rw [results_cell_tmp Tryz.results99 tmps Tryz.prog w, hp, he]
  have hl : (loadVar 196 ⟨r, 0, none⟩).run Tryz.prog w = .ok (.agg #[.bool x, .bool y]) w := run_loadVar_row w r 196 196 _ (0, 0) _ hb Tryz.underlying196 rfl Tryz.infoH
  simp [asAddr, hl, Result.andThen]
set_option maxHeartbeats 1000000 in
theorem Touch_ok {w : World} {X : Nat → Prop} {p : Nat} {h : Hw} {s : Sc} (K : Cr pK w X p h s) {ao : Option Addr} {l c : Nat} {f : Nat → Nat} (hl : l ≤ maxLen) (ha : AU w ao l f) (hX : 0 < l → ∀ b off, ao = some ⟨b, off, none⟩ → ¬ X b) (hin : ∀ i, i < l → f i < h.n * 256) :
    Calls Tryz.prog 99 #[.pointer (some ⟨p, 0, none⟩), .slice ao l c] w fun e w' => e = .returned (.tuple #[.agg #[.bool (lh h s f l).1, .bool (lh h s f l).2], .int .i64 0]) ∧ Gv pK w X p h (tw h s f l) w' := by
  have hn := K.ok.n2
  have hplt : p < w.heap.size := by obtain ⟨_, _, _, _, h⟩ := K.mem; exact h
  have B1 : Below w.heap.size w (w.alloc (.cells #[.bool false, .bool false] 196)) := (Below.refl _ _).alloc (Nat.le_refl _) _
  have b1 := C.blk_new w [.bool false, .bool false] 196
  have HK1 : Hid (Cr pK (w.alloc (.cells #[.bool false, .bool false] 196)) X p h s) := K.below B1
  have HA1 : Hid (AU (w.alloc (.cells #[.bool false, .bool false] 196)) ao l f) := ha.below B1
  have HB1 : Hid (Below w.heap.size w (w.alloc (.cells #[.bool false, .bool false] 196))) := B1
  have HR1 : Hid (C.Blk (w.alloc (.cells #[.bool false, .bool false] 196)) w.heap.size 196 [.bool false, .bool false]) := b1
  have HK0 : Hid (Cr pK w X p h s) := K
  have HA0 : Hid (AU w ao l f) := ha
  have HIN : Hid (∀ i, i < l → f i < h.n * 256) := hin
  have HX : Hid (0 < l → ∀ b off, ao = some ⟨b, off, none⟩ → ¬ X b) := hX
  unfold maxLen at hl
  clear K ha B1 b1 hin hX
  go_enter Tryz.func99, Tryz.ntmps99
  go_wp2_with (go_at_call 69; refine HK1.out.made.mono ?_; rintro e w' ⟨rfl, rfl⟩)
  generalize hw1 : w.alloc (.cells #[.bool false, .bool false] 196) = w1 at *
  clear hw1
  obtain ⟨pm, gm, c0, mm, _⟩ := HK1.out.mem
  have HM : Hid (F.Mem w1 pm gm h.n s.m) := mm
  clear mm
  go_loop [19] (fun i => ∃ k : Nat, k ≤ l ∧ i = .int .i64 k) (fun i => l - (D.iv i).toNat)
  case atStart => exact ⟨0, by omega, rfl⟩
  case round =>
    obtain ⟨k, hk, rfl⟩ := hrel
    by_cases hlt : k < l
    case' pos =>
      obtain ⟨b, off, rfl, hc⟩ := HA1.out.at' hlt
      have hf := HIN.out k hlt
      generalize f k = pa at *
      go_wp2_with (go_at_call 134; refine (F.Byte_ok HM.out hn pa hf).mono ?_; rintro e w' ⟨rfl, rfl⟩)
      go_round
      case rel => exact ⟨k + 1, by omega, by go_num⟩
      case measure => simp [D.iv]; omega
    case' neg =>
      obtain rfl : k = l := by omega
      go_wp2_with fail
      have HT0 : Hid (Tk X w (w1.alloc (.cells #[.bool false, .bool false] 196)) p h s w.heap.size w1.heap.size false false) := by
        have b2 : Below w1.heap.size w1 (w1.alloc (.cells #[.bool false, .bool false] 196)) := (Below.refl _ _).alloc (Nat.le_refl _) _
        have hs1 := HB1.out.size
        have hr1 := HR1.out.lt
        refine ⟨⟨X, HK1.out.below b2, kp_of_below _ (HB1.out.trans (b2.mono hs1)), fun q => ?_, fun q => ?_⟩, HR1.out.of_eq (b2.block _ hr1), C.blk_new w1 [.bool false, .bool false] 196, by omega, Nat.le_refl _, hs1⟩
        · have := HK0.out.lt _ q; omega
        · have := HK0.out.lt _ q; omega
      generalize hw2 : w1.alloc (.cells #[.bool false, .bool false] 196) = w2 at *
      clear hw2 HK1 HA1 HB1 HR1 HM c0
      generalize w1.heap.size = m at *
      go_loopw [39] (fun i wr => ∃ j : Nat, j ≤ k ∧ i = .int .i64 j ∧ Tk X w wr p h (tw h s f j) w.heap.size m (lh h s f j).1 (lh h s f j).2) (fun i _ => k - (D.iv i).toNat)
      case atStart => exact ⟨0, by omega, rfl, HT0.out⟩
      case round =>
        obtain ⟨j, hj, rfl, hT⟩ := hrel
        have HT : Hid (Tk X w wr p h (tw h s f j) w.heap.size m (lh h s f j).1 (lh h s f j).2) := hT
        clear hT
        by_cases hjk : j < k
        case' pos =>
          obtain ⟨b, off, rfl, hc⟩ := (HT.out.au HA0.out (HX.out (by omega))).at' hjk
          have hf := HIN.out j hjk
          have HTW : Hid (tw h s f (j + 1) = tou h (tw h s f j) (f j)) := rfl
          have HLH : Hid (lh h s f (j + 1) = (hA h (tw h s f j) (f j), hB h (tw h s f j) (f j))) := rfl
          go_wp2_with fail
          refine (HT.out.touch (f j) hf).mono ?_
          rintro e w3 ⟨rfl, hT3⟩
          rw [← HTW.out] at hT3
          have e1 : hA h (tw h s f j) (f j) = (lh h s f (j + 1)).1 := rfl
          have e2 : hB h (tw h s f j) (f j) = (lh h s f (j + 1)).2 := rfl
          rw [e1, e2]
          have HT3 : Hid (Tk X w w3 p h (tw h s f (j + 1)) w.heap.size m (lh h s f j).1 (lh h s f j).2) := hT3
          have m0 : w3.cell? ⟨m, 0, none⟩ = some (.bool (lh h s f j).1) := hT3.bm.cell 0
          have m1 : w3.cell? ⟨m, 1, none⟩ = some (.bool (lh h s f j).2) := hT3.bm.cell 1
          have q0 := hT3.bm.frozen 0
          have q1 := hT3.bm.frozen 1
          clear hT3 e1 e2 HTW HLH
          generalize (lh h s f j).1 = x0 at *
          generalize (lh h s f j).2 = y0 at *
          have HT4 : Hid (Tk X w ((w3.setCell ⟨m, 0, none⟩ (.bool (lh h s f (j + 1)).1)).setCell ⟨m, 1, none⟩ (.bool (lh h s f (j + 1)).2)) p h (tw h s f (j + 1)) w.heap.size m (lh h s f (j + 1)).1 (lh h s f (j + 1)).2) :=
            (HT3.out.met 0 _ (lh h s f (j + 1)).1 y0 rfl).met 1 _ (lh h s f (j + 1)).1 (lh h s f (j + 1)).2 rfl
          clear HT3 HT HT0
          go_wp2
          go_roundw
          case rel => exact ⟨j + 1, by omega, by go_num, HT4.out⟩
          case measure => simp [D.iv]; omega
        case' neg =>
          obtain rfl : j = k := by omega
          have m0 : wr.cell? ⟨m, 0, none⟩ = some (.bool (lh h s f j).1) := HT.out.bm.cell 0
          have m1 : wr.cell? ⟨m, 1, none⟩ = some (.bool (lh h s f j).2) := HT.out.bm.cell 1
          have r0 : wr.cell? ⟨w.heap.size, 0, none⟩ = some (.bool false) := HT.out.br.cell 0
          have r1 : wr.cell? ⟨w.heap.size, 1, none⟩ = some (.bool false) := HT.out.br.cell 1
          have q0 := HT.out.br.frozen 0
          have q1 := HT.out.br.frozen 1
          have hrm := HT.out.rm
          go_wp2
          obtain ⟨hB9, hG9⟩ := HT.out.fin (lh h s f j).1 (lh h s f j).2 rfl
          exact bodyPost_ret (res_hit rfl rfl hB9) rfl ⟨rfl, hG9⟩
end Go.Proofs.YtkbpnkjjmipjfaaGreat.E
namespace Go.Proofs.YtkbpnkjjmipjfaaGreat.E
open Go.ChangeShapes Go.WideShapes Go.ChangeAt Go.RowKit
set_option linter.unusedVariables false
set_option maxRecDepth 8192

end Go.Proofs.YtkbpnkjjmipjfaaGreat.E
