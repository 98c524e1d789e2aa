/- The library's contract of slices.SortFunc laid at this program: a table of numbers and one theorem, each field a fact of the program's own; no condition. -/
import Derived.Test.YtgljdbabagdhlaaGreatVaa
import Derived.Shelf.SlSortCmp.WholeK
namespace Go.Proofs.YtgljdbabagdhlaaGreat.A
open Go.Shelf
def sortS_ren:Go.Shelf.Ren:=⟨fun | 6=>94 | 15=>132 | 14=>131 | 28=>169 | 29=>170 | 20=>161 | 21=>162 | 22=>163 | 23=>164 | 24=>165 | 25=>166 | 26=>167 | 27=>168 | 46=>184 | 47=>185 | 48=>186 | 49=>187 | 50=>188 | 57=>200 | n=>n,fun | 22=>87 | 24=>86 | 25=>188 | 3=>3 | 39=>48 | 0=>0 | 53=>244 | 55=>38 | 4=>4 | 46=>238 | 45=>237 | 50=>231 | 5=>5 | 9=>9 | 66=>258 | 70=>262 | 76=>273 | 77=>218 | n=>n,fun | n=>n⟩
theorem sortS:Go.Proofs.SlLaysF0.n6 Tryz.prog sortS_ren:={
  mixed:=by kernel_rfl
  f6:=⟨Tryz.f94.name,by decide,Tryz.func94.trans (congrArg some (by kernel_rfl))⟩
  f14:=⟨Tryz.f131.name,by decide,Tryz.func131.trans (congrArg some (by kernel_rfl))⟩
  f15:=Tryz.func132.trans (congrArg some (by kernel_rfl))
  f20:=⟨Tryz.f161.name,by decide,Tryz.func161.trans (congrArg some (by kernel_rfl))⟩
  f21:=⟨Tryz.f162.name,by decide,Tryz.func162.trans (congrArg some (by kernel_rfl))⟩
  f22:=⟨Tryz.f163.name,by decide,Tryz.func163.trans (congrArg some (by kernel_rfl))⟩
  f23:=⟨Tryz.f164.name,by decide,Tryz.func164.trans (congrArg some (by kernel_rfl))⟩
  f24:=⟨Tryz.f165.name,by decide,Tryz.func165.trans (congrArg some (by kernel_rfl))⟩
  f25:=⟨Tryz.f166.name,by decide,Tryz.func166.trans (congrArg some (by kernel_rfl))⟩
  f26:=⟨Tryz.f167.name,by decide,Tryz.func167.trans (congrArg some (by kernel_rfl))⟩
  f27:=⟨Tryz.f168.name,by decide,Tryz.func168.trans (congrArg some (by kernel_rfl))⟩
  f28:=Tryz.func169.trans (congrArg some (by kernel_rfl))
  f29:=Tryz.func170.trans (congrArg some (by kernel_rfl))
  f46:=⟨Tryz.f184.name,by decide,Tryz.func184.trans (congrArg some (by kernel_rfl))⟩
  f47:=Tryz.func185.trans (congrArg some (by kernel_rfl))
  f48:=Tryz.func186.trans (congrArg some (by kernel_rfl))
  f49:=⟨Tryz.f187.name,by decide,Tryz.func187.trans (congrArg some (by kernel_rfl))⟩
  f50:=⟨Tryz.f188.name,by decide,Tryz.func188.trans (congrArg some (by kernel_rfl))⟩
  f57:=⟨Tryz.f200.name,by decide,Tryz.func200.trans (congrArg some (by kernel_rfl))⟩
  t0:=Tryz.underlying0
  a0:=Tryz.isAgg0
  z0:=Tryz.sizeOf0
  v0:=Tryz.zeroValue0
  t3:=Tryz.underlying3
  a3:=Tryz.isAgg3
  z3:=Tryz.sizeOf3
  v3:=Tryz.zeroValue3
  t4:=Tryz.underlying4
  a4:=Tryz.isAgg4
  z4:=Tryz.sizeOf4
  v4:=Tryz.zeroValue4
  t5:=Tryz.underlying5
  a5:=Tryz.isAgg5
  z5:=Tryz.sizeOf5
  v5:=Tryz.zeroValue5
  t9:=Tryz.underlying9
  a9:=Tryz.isAgg9
  z9:=Tryz.sizeOf9
  v9:=Tryz.zeroValue9
  t22:=Tryz.underlying87
  a22:=Tryz.isAgg87
  z22:=Tryz.sizeOf87
  v22:=Tryz.zeroValue87
  t25:=Tryz.underlying188
  a25:=Tryz.isAgg188
  z25:=Tryz.sizeOf188
  v25:=Tryz.zeroValue188
  t39:=Tryz.underlying48
  a39:=Tryz.isAgg48
  z39:=Tryz.sizeOf48
  v39:=Tryz.zeroValue48
  t45:=Tryz.underlying237
  a45:=Tryz.isAgg237
  z45:=Tryz.sizeOf237
  v45:=Tryz.zeroValue237
  t46:=Tryz.underlying238
  a46:=Tryz.isAgg238
  z46:=Tryz.sizeOf238
  v46:=Tryz.zeroValue238
  t50:=Tryz.underlying231
  a50:=Tryz.isAgg231
  z50:=Tryz.sizeOf231
  v50:=Tryz.zeroValue231
  t53:=Tryz.underlying244
  a53:=Tryz.isAgg244
  z53:=Tryz.sizeOf244
  v53:=Tryz.zeroValue244
  t55:=Tryz.underlying38
  a55:=Tryz.isAgg38
  z55:=Tryz.sizeOf38
  v55:=Tryz.zeroValue38
  t66:=Tryz.underlying258
  a66:=Tryz.isAgg258
  z66:=Tryz.sizeOf258
  v66:=Tryz.zeroValue258
  t70:=Tryz.underlying262
  a70:=Tryz.isAgg262
  z70:=Tryz.sizeOf262
  v70:=Tryz.zeroValue262
  t76:=Tryz.underlying273
  a76:=Tryz.isAgg273
  z76:=Tryz.sizeOf273
  v76:=Tryz.zeroValue273
  t77:=Tryz.underlying218
  a77:=Tryz.isAgg218
  z77:=Tryz.sizeOf218
  v77:=Tryz.zeroValue218 }
end Go.Proofs.YtgljdbabagdhlaaGreat.A
namespace Go.Proofs.YtgljdbabagdhlaaGreat.A
open Go.Shelf Go.RowKit Go.Lib Go.Sort
set_option linter.unusedVariables false
set_option maxRecDepth 8192
theorem isNaN_any (a:Int) (w:World):Calls Tryz.prog 133 #[.int .i64 a] w fun e w'=>e = .returned (.bool false)∧w' = w:=by
  have h:(a != a) = false:=by simp
  go_enter Tryz.func133,Tryz.ntmps133
  go_wp2
  go_ret
  exact ⟨rfl,rfl⟩
theorem Compare_any (a b:Int) (w:World):Calls Tryz.prog 96 #[.int .i64 a,.int .i64 b] w fun e w'=>e = .returned (.int .i64 (compareInt a b))∧w' = w:=by
  by_cases c1:a < b
  · have hr:compareInt a b = -1:=by simp [compareInt,c1]
    rw [hr]
    go_enter Tryz.func96,Tryz.ntmps96
    go_wp2_with (go_at_call 133; refine (isNaN_any _ _).mono ?_; rintro e w' ⟨rfl,rfl⟩)
    go_ret
    exact ⟨rfl,rfl⟩
  · by_cases c2:b < a
    · have hr:compareInt a b = 1:=by simp [compareInt,c1,c2]
      rw [hr]
      go_enter Tryz.func96,Tryz.ntmps96
      go_wp2_with (go_at_call 133; refine (isNaN_any _ _).mono ?_; rintro e w' ⟨rfl,rfl⟩)
      go_ret
      exact ⟨rfl,rfl⟩
    · have hr:compareInt a b = 0:=by simp [compareInt,c1,c2]
      rw [hr]
      go_enter Tryz.func96,Tryz.ntmps96
      go_wp2_with (go_at_call 133; refine (isNaN_any _ _).mono ?_; rintro e w' ⟨rfl,rfl⟩)
      go_ret
      exact ⟨rfl,rfl⟩
theorem cmp_lt (x y:Int × Int):ltOf (fun x y:Int × Int=>compareInt x.1 y.1) x y = decide (x.1 < y.1):=by
  unfold ltOf compareInt
  by_cases h1:x.1 < y.1
  · simp [h1]
  · by_cases h2:y.1 < x.1 <;> simp [h1,h2]
theorem cmp_swo:SWO (ltOf fun x y:Int × Int=>compareInt x.1 y.1):=by
  refine ⟨fun x => ?_,fun x y z h1 h2 => ?_,fun x y z h1 h2 => ?_⟩ <;> simp only [cmp_lt,decide_eq_true_eq,decide_eq_false_iff_not] at * <;> omega
def encS (x:Int × Int):List Value:=[.int .i64 x.1,.int .i64 x.2]
set_option maxHeartbeats 1000000 in
theorem closure_any (x y:Int × Int) (W:World):Calls Tryz.prog 95 #[.agg #[.int .i64 x.1,.int .i64 x.2],.agg #[.int .i64 y.1,.int .i64 y.2]] W fun e w'=>e = .returned (.int .i64 (compareInt x.1 y.1))∧∃ q os',w' = grow (W.drewN q) os':=by
  have hc:=fun w=>Compare_any x.1 y.1 w
  generalize compareInt x.1 y.1 = r at hc ⊢
  have Hc:Hid _:=hc
  clear hc
  go_enter Tryz.func95,Tryz.ntmps95
  go_wp2_with (go_at_call 96; refine (Hc.out _).mono ?_; rintro e w' ⟨rfl,rfl⟩)
  go_ret
  exact ⟨rfl,0,_,by rw [alloc_eq_grow,alloc_eq_grow,grow_grow]; rfl⟩
theorem isAggS (w:World):(isAgg 86).run Tryz.prog w = .ok true w:=by kernel_rfl
theorem sizeOfS (w:World):(Go.sizeOf 86).run Tryz.prog w = .ok 2 w:=by kernel_rfl
theorem flat_get:∀ (ys:List (Int × Int)) (t:Nat),t < ys.length * 2→(flat ys)[t]? = some ((encS (ys.toArray[t / 2]!))[t % 2]!)
  | [],t,h=>by simp at h
  | y :: ys,0,_=>by simp [flat,encS]
  | y :: ys,1,_=>by simp [flat,encS]
  | y :: ys,t + 2,h=>by
    have ih:=flat_get ys t (by simp at h; omega)
    have e1:(flat (y :: ys))[t + 2]? = (flat ys)[t]?:=by simp [flat]
    have e2:(t + 2) / 2 = t / 2 + 1:=by omega
    have e3:(t + 2) % 2 = t % 2:=by omega
    rw [e1,ih,e2,e3]
    simp
theorem holds_of_owns {w:World} {g:Nat} {cur:Array Value} {ys:List (Int × Int)} (hb:w.heap[g]? = some (.cells cur 86 (0,0))) (ht:cur.toList.take (ys.length * 2) = flat ys):HoldsK encS 2 w g 0 ys.toArray:=by
  intro j hj
  rw [size_flatK] at hj
  have hj' : j < ys.length * 2:=by simpa using hj
  have hcur:cur[j]? = some ((encS (ys.toArray[j / 2]!))[j % 2]!):=by
    rw [← flat_get ys j hj', ← ht,List.getElem?_take_of_lt hj',Array.getElem?_toList]
  rw [get_flatK _ _ _ _ (by simpa using hj')]
  simp [World.cell?,World.frozen?,hb,hcur]
theorem below_sorted {w:World} {g n base:Nat} {os:Array Obj} (d:Array (Int × Int)) (hg:base ≤ g) (hs:g < w.heap.size):Go.RowKit.Below base w (sortWorldK encS 2 w g 0 n d os):=by
  have hsz:w.heap.size ≤ (sortWorldK encS 2 w g 0 n d os).heap.size:=by
    unfold sortWorldK; rw [size_grow,size_putRowK]; exact Nat.le_add_right w.heap.size _
  refine ⟨rfl,rfl,rfl,hsz,fun k hk => ?_⟩
  unfold sortWorldK
  rw [heap_grow_old _ _ (by rw [size_putRowK]; exact Nat.lt_trans (Nat.lt_of_lt_of_le hk hg) hs)]
  have:g ≠ k:=by omega
  simp [putRowK,putRow,mapBlock,Sort.ahead,Array.getElem?_modify,this]
set_option maxHeartbeats 1000000 in
theorem srt:Srt:=by
  intro base g cap ys w hown hlen
  rcases hown.2 with ⟨hnil,_⟩ | ⟨g',cap',cur,hv,hbase,hb,h1,h2,h3,h4⟩
  · cases hnil
  · cases hv
    have hH:HoldsK encS 2 w g 0 ys.toArray:=holds_of_owns hb h4
    have hblk:g < w.heap.size:=(Array.getElem?_eq_some_iff.1 hb).1
    have eg:∀ args w,(callFunc 95 args).run Tryz.prog w = .ok (.enter 95 args) w:=enters_of Tryz.func95 (by kernel_rfl) rfl
    have hcon:=AnyQ.slices_SortFunc sortS 2 isAggS sizeOfS encS (fun _=>rfl) (fun x v hv=>by simp [encS] at hv; rcases hv with rfl | rfl <;> rfl) (fun x y=>compareInt x.1 y.1) cmp_swo 95 #[] g 0 cap ys.toArray w eg (fun _ _ _ _ x y=>closure_any x y _) hH hblk (by simp; omega)
    refine hcon.mono ?_
    rintro e w' ⟨rfl,d',n,os,hp,hs,rfl⟩
    obtain ⟨hsz,_,hperm⟩:=hp
    have hsz' : d'.size = ys.length:=hsz
    refine ⟨rfl,d'.toList, ?_, ?_,below_sorted d' hbase hblk, ?_, ?_⟩
    · have e1:d'.extract 0 ys.toArray.size = d':=by rw [← hsz]; exact Array.extract_size
      have e2:ys.toArray.extract 0 ys.toArray.size = ys.toArray:=Array.extract_size
      rw [e1,e2] at hperm
      exact hperm
    · rw [List.pairwise_iff_getElem]
      intro i j hi hj hij
      have:=hs i j (Nat.zero_le _) hij (by rw [← hsz]; simpa using hj)
      rw [cmp_lt] at this
      simp at hi hj
      rw [getElem!_pos d' i hi,getElem!_pos d' j hj] at this
      simp at this ⊢
      exact this
    · unfold sortWorldK; rw [size_grow,size_putRowK]; exact Nat.lt_of_lt_of_le hblk (Nat.le_add_right w.heap.size _)
    · intro i hi
      have hi' : i < d'.size:=by simpa using hi
      have hh:=holdsK_sortWorldK_c encS 2 w g 0 ys.toArray d' n os hH hblk hsz
      have c0:=(hh.cell hi' (show 0 < 2 by omega)).1
      have c1:=(hh.cell hi' (show 1 < 2 by omega)).1
      rw [getElem!_pos d' i hi'] at c0 c1
      exact ⟨by simpa [encS] using c0,by simpa [encS] using c1⟩
end Go.Proofs.YtgljdbabagdhlaaGreat.A
namespace Go.Proofs.YtgljdbabagdhlaaGreat.A
open Go.ChangeShapes Go.WideShapes Go.ChangeAt Go.RowKit
set_option linter.unusedVariables false
set_option maxRecDepth 8192
def tres (xs:List (Int × Int)):Int × Int:=if 1024 < xs.length then (0,3) else if xs.all mayS = true then ((total xs:Int),0) else (0,2)
theorem tres_ok {xs:List (Int × Int)} (h:(tres xs).2 = 0):xs.length ≤ 1024∧(∀ s ∈ xs,mayS s = true)∧tres xs = ((total xs:Int),0):=by
  unfold tres at *
  by_cases h1:1024 < xs.length
  · simp [h1] at h
  · by_cases h2:xs.all mayS = true
    · simp only [if_neg h1,if_pos h2]
      exact ⟨by omega,fun s hs=>List.all_eq_true.1 h2 s hs,trivial⟩
    · simp [h1,h2] at h
theorem tres_val {xs:List (Int × Int)} (h1:xs.length ≤ 1024) (h2:∀ s ∈ xs,mayS s = true):tres xs = ((total xs:Int),0):=by
  unfold tres
  rw [if_neg (by omega),if_pos (List.all_eq_true.2 h2)]
theorem Tables_any (b off cap : Nat) (xs : List (Int × Int)) (hx : ∀ s ∈ xs, fits s) (hm : xs.length ≤ maxLen) (ao : Option Addr) (w : World) (hr : xs = [] ∨ ao = some ⟨b, off, none⟩ ∧ Row w b off xs) :
    Calls Tryz.prog 55 #[.slice ao xs.length cap] w fun e w'=>e = .returned (.tuple #[.int .i64 (tres xs).1,.int .i64 (tres xs).2])∧Below w.heap.size w w':=by
  by_cases h1:1024 < xs.length
  · have e:tres xs = (0,3):=by unfold tres; rw [if_pos h1]
    rw [e]
    refine (Tables_many ao cap xs.length h1 hm w).mono ?_
    rintro e w' ⟨rfl,rfl⟩
    exact ⟨rfl,Below.refl _ _⟩
  · by_cases h2:xs.all mayS = true
    · rw [tres_val (by omega) (List.all_eq_true.1 h2)]
      exact Tables_val srt b off cap xs hx (by omega) ao w hr (List.all_eq_true.1 h2)
    · have e:tres xs = (0,2):=by unfold tres; rw [if_neg h1,if_neg h2]
      rw [e]
      refine Tables_bad b off cap xs hx (by omega) ao w hr ?_
      simp at h2
      obtain ⟨a,c,hs,hf⟩:=h2
      exact ⟨(a,c),hs,hf⟩
end Go.Proofs.YtgljdbabagdhlaaGreat.A
