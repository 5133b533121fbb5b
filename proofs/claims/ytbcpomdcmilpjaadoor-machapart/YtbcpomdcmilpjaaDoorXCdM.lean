/- Our own: texts joined: CdMath, RetRow, RetTwo, Set5, CdTab. -/
import Derived.Test.YtbcpomdcmilpjaaDoorXBaseM
import Derived.Laws.Rows
namespace Go.Proofs.YtbcpomdcmilpjaaDoor
open Go.RowKit
structure Co where
 kind : List UInt8
 sg : List UInt8
 d : Bool
 a : Bool
 b : Bool
 many : Bool
 imm : Bool
 deriving DecidableEq
structure Ci where
 op : List UInt8
 d : Int
 a : Int
 b : Int
 imm : Int
 deriving DecidableEq
def coN : Co := ⟨[], [], false, false, false, false, false⟩
def coL : List Co := [
 ⟨[99, 111, 110, 115, 116], [], true, false, false, false, true⟩,
 ⟨[104, 105, 103, 104], [], true, false, false, false, true⟩,
 ⟨[109, 111, 118, 101], [], true, true, false, false, false⟩,
 ⟨[108, 111, 97, 100], [], true, false, false, false, true⟩,
 ⟨[115, 116, 111, 114, 101], [], false, true, false, false, true⟩,
 ⟨[112, 97, 114, 97, 109], [], true, false, false, false, true⟩,
 ⟨[97, 114, 103], [], false, true, false, false, true⟩,
 ⟨[99, 97, 108, 108], [], true, false, false, true, true⟩,
 ⟨[116, 105, 99, 107], [], false, false, false, false, false⟩,
 ⟨[112, 114, 105, 110, 116], [], false, true, false, false, false⟩,
 ⟨[106, 117, 109, 112], [], false, false, false, false, true⟩,
 ⟨[105, 102], [], false, true, false, false, true⟩,
 ⟨[114, 101, 116, 117, 114, 110], [], false, true, false, false, false⟩,
 ⟨[110, 101, 103], [45], true, true, false, false, false⟩,
 ⟨[110, 111, 116], [33], true, true, false, false, false⟩,
 ⟨[97, 100, 100], [43], true, true, true, false, false⟩,
 ⟨[115, 117, 98], [45], true, true, true, false, false⟩,
 ⟨[109, 117, 108], [42], true, true, true, false, false⟩,
 ⟨[100, 105, 118], [47], true, true, true, false, false⟩,
 ⟨[114, 101, 109], [37], true, true, true, false, false⟩,
 ⟨[97, 110, 100], [38], true, true, true, false, false⟩,
 ⟨[111, 114], [124], true, true, true, false, false⟩,
 ⟨[120, 111, 114], [94], true, true, true, false, false⟩,
 ⟨[115, 104, 108], [60, 60], true, true, true, false, false⟩,
 ⟨[115, 104, 114], [62, 62], true, true, true, false, false⟩,
 ⟨[108, 101, 115, 115], [60], true, true, true, false, false⟩,
 ⟨[109, 111, 115, 116], [60, 61], true, true, true, false, false⟩,
 ⟨[115, 97, 109, 101], [61, 61], true, true, true, false, false⟩,
 ⟨[111, 116, 104, 101, 114], [33, 61], true, true, true, false, false⟩]
def coIn : List Co → Nat → List UInt8 → Nat × Co
 | [], _, _ => (0, coN)
 | s :: r, n, k => if s.kind = k then (n + 1, s) else coIn r (n + 1) k
def coNum (n : Nat) : Co := if n < 1 then coN else (coL[n - 1]?).getD coN
def bey (has : Bool) (n last : Int) : Bool := has && (decide (n < 0) || decide (last < n))
def ndl (has : Bool) (n : Int) : Bool := !has && !decide (n = 0)
def in32 (n : Int) : Bool := decide (-2147483648 ≤ n) && decide (n < 2147483648)
def coChk (o : Co) (i : Ci) : Nat :=
 if o.kind = [] then 1
 else if bey o.d i.d 7 || bey o.a i.a 7 || bey o.b i.b 7 || !in32 i.imm || bey o.many i.b 4 then 2
 else if ndl o.d i.d || ndl o.a i.a || ndl (o.b || o.many) i.b || ndl o.imm i.imm then 3
 else 0
end Go.Proofs.YtbcpomdcmilpjaaDoor
namespace Go.Proofs.YtbcpomdcmilpjaaDoor
open Go.RowKit
theorem ret_row {fn : Func} {R : Ending → World → Prop} {tmps : Array Value} {w : World} (r sl : Nat) (cs : Array Value) (T : TypeId) {fs : Array Field} {t : TypeId} (hres : fn.results = #[ResultVar.cell sl T]) (hsl : tmps.getD sl undef = .pointer (some ⟨r, 0, none⟩))
  (hx : w.heap[r]? = some (.cells cs t (0, 0))) (hu : Tryd.prog.underlying T = some (.struct fs)) (hi : (Tryd.prog.info? T).map (·.size) = some cs.size) (h : R (.returned (.agg cs)) w) : bodyPost Tryd.prog fn R Exit.ret { tmps := tmps, defers := [] } w :=
 bodyPost_ret (v := .agg cs) (results_cell_row hres tmps w r t cs (0, 0) _ hsl hx hu rfl hi) rfl h
end Go.Proofs.YtbcpomdcmilpjaaDoor
namespace Go.Proofs.YtbcpomdcmilpjaaDoor
open Go.RowKit
theorem ret_tmp_row {fn : Func} {R : Ending → World → Prop} {tmps : Array Value} {w : World} (r u sl : Nat) (cs : Array Value) (T : TypeId) (x : Value) {fs : Array Field} {t : TypeId} (hres : fn.results = #[ResultVar.tmp u, ResultVar.cell sl T]) (hx0 : tmps.getD u undef = x) (hsl : tmps.getD sl undef = .pointer (some ⟨r, 0, none⟩))
  (hx : w.heap[r]? = some (.cells cs t (0, 0))) (hu : Tryd.prog.underlying T = some (.struct fs)) (hi : (Tryd.prog.info? T).map (·.size) = some cs.size) (h : R (.returned (.tuple #[x, .agg cs])) w) : bodyPost Tryd.prog fn R Exit.ret { tmps := tmps, defers := [] } w := by
 refine bodyPost_ret (v := .tuple #[x, .agg cs]) ?_ rfl h
 have hp' : tmps[sl]?.getD undef = .pointer (some ⟨r, 0, none⟩) := by simpa using hsl
 have hq' : tmps[u]?.getD undef = x := by simpa using hx0
 simp [results, hres, hp', hq', asAddr, Go.run_loadVar_row w r t T cs (0, 0) _ hx hu rfl hi]
theorem ret_row_tmp {fn : Func} {R : Ending → World → Prop} {tmps : Array Value} {w : World} (r u sl : Nat) (cs : Array Value) (T : TypeId) (x : Value) {fs : Array Field} {t : TypeId} (hres : fn.results = #[ResultVar.cell sl T, ResultVar.tmp u]) (hx0 : tmps.getD u undef = x) (hsl : tmps.getD sl undef = .pointer (some ⟨r, 0, none⟩))
  (hx : w.heap[r]? = some (.cells cs t (0, 0))) (hu : Tryd.prog.underlying T = some (.struct fs)) (hi : (Tryd.prog.info? T).map (·.size) = some cs.size) (h : R (.returned (.tuple #[.agg cs, x])) w) : bodyPost Tryd.prog fn R Exit.ret { tmps := tmps, defers := [] } w := by
 refine bodyPost_ret (v := .tuple #[.agg cs, x]) ?_ rfl h
 have hp' : tmps[sl]?.getD undef = .pointer (some ⟨r, 0, none⟩) := by simpa using hsl
 have hq' : tmps[u]?.getD undef = x := by simpa using hx0
 simp [results, hres, hp', hq', asAddr, Go.run_loadVar_row w r t T cs (0, 0) _ hx hu rfl hi]
end Go.Proofs.YtbcpomdcmilpjaaDoor
namespace Go.Proofs.YtbcpomdcmilpjaaDoor
open Go.RowKit
theorem set5_blk {w : World} {r : Nat} {x0 x1 x2 x3 x4 : Value} {t : TypeId} (h : w.heap[r]? = some (.cells #[x0, x1, x2, x3, x4] t (0, 0))) (u0 u1 u2 u3 u4 : Value) :
  (((((w.setCell ⟨r, 0, none⟩ u0).setCell ⟨r, 1, none⟩ u1).setCell ⟨r, 2, none⟩ u2).setCell ⟨r, 3, none⟩ u3).setCell ⟨r, 4, none⟩ u4).heap[r]? = some (.cells #[u0, u1, u2, u3, u4] t (0, 0)) := by
 have h0 := blk_setCell h 0 u0
 have h1 := blk_setCell h0 1 u1
 have h2 := blk_setCell h1 2 u2
 have h3 := blk_setCell h2 3 u3
 have h4 := blk_setCell h3 4 u4
 simpa using h4
end Go.Proofs.YtbcpomdcmilpjaaDoor
namespace Go.Proofs.YtbcpomdcmilpjaaDoor
open Go.RowKit
def coC (s : Co) : List Value := [.string ⟨s.kind.toArray⟩, .string ⟨s.sg.toArray⟩, .bool s.d, .bool s.a, .bool s.b, .bool s.many, .bool s.imm]
abbrev coV (s : Co) : Value := .agg #[.string ⟨s.kind.toArray⟩, .string ⟨s.sg.toArray⟩, .bool s.d, .bool s.a, .bool s.b, .bool s.many, .bool s.imm]
def coT : List Value := coL.flatMap coC
structure TabC (w : World) : Prop where
 tab : ∃ t, w.heap[11]? = some (.cells coT.toArray t (0, 0))
theorem TabC.below {w w' : World} (h : TabC w) (hb : Below w.heap.size w w') : TabC w' := by
 obtain ⟨t, ht⟩ := h.tab
 exact ⟨t, (hb.block _ (heap_lt ht)).trans ht⟩
theorem co_0 (w : World) : (Instr.index 132 (.agg coT.toArray) (.int .i64 0)).run Tryd.prog w = .ok (coV (coL[0]'(by decide))) w := by kernel_rfl
theorem co_1 (w : World) : (Instr.index 132 (.agg coT.toArray) (.int .i64 1)).run Tryd.prog w = .ok (coV (coL[1]'(by decide))) w := by kernel_rfl
theorem co_2 (w : World) : (Instr.index 132 (.agg coT.toArray) (.int .i64 2)).run Tryd.prog w = .ok (coV (coL[2]'(by decide))) w := by kernel_rfl
theorem co_3 (w : World) : (Instr.index 132 (.agg coT.toArray) (.int .i64 3)).run Tryd.prog w = .ok (coV (coL[3]'(by decide))) w := by kernel_rfl
theorem co_4 (w : World) : (Instr.index 132 (.agg coT.toArray) (.int .i64 4)).run Tryd.prog w = .ok (coV (coL[4]'(by decide))) w := by kernel_rfl
theorem co_5 (w : World) : (Instr.index 132 (.agg coT.toArray) (.int .i64 5)).run Tryd.prog w = .ok (coV (coL[5]'(by decide))) w := by kernel_rfl
theorem co_6 (w : World) : (Instr.index 132 (.agg coT.toArray) (.int .i64 6)).run Tryd.prog w = .ok (coV (coL[6]'(by decide))) w := by kernel_rfl
theorem co_7 (w : World) : (Instr.index 132 (.agg coT.toArray) (.int .i64 7)).run Tryd.prog w = .ok (coV (coL[7]'(by decide))) w := by kernel_rfl
theorem co_8 (w : World) : (Instr.index 132 (.agg coT.toArray) (.int .i64 8)).run Tryd.prog w = .ok (coV (coL[8]'(by decide))) w := by kernel_rfl
theorem co_9 (w : World) : (Instr.index 132 (.agg coT.toArray) (.int .i64 9)).run Tryd.prog w = .ok (coV (coL[9]'(by decide))) w := by kernel_rfl
theorem co_10 (w : World) : (Instr.index 132 (.agg coT.toArray) (.int .i64 10)).run Tryd.prog w = .ok (coV (coL[10]'(by decide))) w := by kernel_rfl
theorem co_11 (w : World) : (Instr.index 132 (.agg coT.toArray) (.int .i64 11)).run Tryd.prog w = .ok (coV (coL[11]'(by decide))) w := by kernel_rfl
theorem co_12 (w : World) : (Instr.index 132 (.agg coT.toArray) (.int .i64 12)).run Tryd.prog w = .ok (coV (coL[12]'(by decide))) w := by kernel_rfl
theorem co_13 (w : World) : (Instr.index 132 (.agg coT.toArray) (.int .i64 13)).run Tryd.prog w = .ok (coV (coL[13]'(by decide))) w := by kernel_rfl
theorem co_14 (w : World) : (Instr.index 132 (.agg coT.toArray) (.int .i64 14)).run Tryd.prog w = .ok (coV (coL[14]'(by decide))) w := by kernel_rfl
theorem co_15 (w : World) : (Instr.index 132 (.agg coT.toArray) (.int .i64 15)).run Tryd.prog w = .ok (coV (coL[15]'(by decide))) w := by kernel_rfl
theorem co_16 (w : World) : (Instr.index 132 (.agg coT.toArray) (.int .i64 16)).run Tryd.prog w = .ok (coV (coL[16]'(by decide))) w := by kernel_rfl
theorem co_17 (w : World) : (Instr.index 132 (.agg coT.toArray) (.int .i64 17)).run Tryd.prog w = .ok (coV (coL[17]'(by decide))) w := by kernel_rfl
theorem co_18 (w : World) : (Instr.index 132 (.agg coT.toArray) (.int .i64 18)).run Tryd.prog w = .ok (coV (coL[18]'(by decide))) w := by kernel_rfl
theorem co_19 (w : World) : (Instr.index 132 (.agg coT.toArray) (.int .i64 19)).run Tryd.prog w = .ok (coV (coL[19]'(by decide))) w := by kernel_rfl
theorem co_20 (w : World) : (Instr.index 132 (.agg coT.toArray) (.int .i64 20)).run Tryd.prog w = .ok (coV (coL[20]'(by decide))) w := by kernel_rfl
theorem co_21 (w : World) : (Instr.index 132 (.agg coT.toArray) (.int .i64 21)).run Tryd.prog w = .ok (coV (coL[21]'(by decide))) w := by kernel_rfl
theorem co_22 (w : World) : (Instr.index 132 (.agg coT.toArray) (.int .i64 22)).run Tryd.prog w = .ok (coV (coL[22]'(by decide))) w := by kernel_rfl
theorem co_23 (w : World) : (Instr.index 132 (.agg coT.toArray) (.int .i64 23)).run Tryd.prog w = .ok (coV (coL[23]'(by decide))) w := by kernel_rfl
theorem co_24 (w : World) : (Instr.index 132 (.agg coT.toArray) (.int .i64 24)).run Tryd.prog w = .ok (coV (coL[24]'(by decide))) w := by kernel_rfl
theorem co_25 (w : World) : (Instr.index 132 (.agg coT.toArray) (.int .i64 25)).run Tryd.prog w = .ok (coV (coL[25]'(by decide))) w := by kernel_rfl
theorem co_26 (w : World) : (Instr.index 132 (.agg coT.toArray) (.int .i64 26)).run Tryd.prog w = .ok (coV (coL[26]'(by decide))) w := by kernel_rfl
theorem co_27 (w : World) : (Instr.index 132 (.agg coT.toArray) (.int .i64 27)).run Tryd.prog w = .ok (coV (coL[27]'(by decide))) w := by kernel_rfl
theorem co_28 (w : World) : (Instr.index 132 (.agg coT.toArray) (.int .i64 28)).run Tryd.prog w = .ok (coV (coL[28]'(by decide))) w := by kernel_rfl
theorem co_index (i : Nat) (hi : i < coL.length) (w : World) : (Instr.index 132 (.agg coT.toArray) (.int .i64 i)).run Tryd.prog w = .ok (coV coL[i]) w := by
 have h14 : i < 29 := hi
 rcases (by omega : i = 0 ∨ i = 1 ∨ i = 2 ∨ i = 3 ∨ i = 4 ∨ i = 5 ∨ i = 6 ∨ i = 7 ∨ i = 8 ∨ i = 9 ∨ i = 10 ∨ i = 11 ∨ i = 12 ∨ i = 13 ∨ i = 14 ∨ i = 15 ∨ i = 16 ∨ i = 17 ∨ i = 18 ∨ i = 19 ∨ i = 20 ∨ i = 21 ∨ i = 22 ∨ i = 23 ∨ i = 24 ∨ i = 25 ∨ i = 26 ∨ i = 27 ∨ i = 28) with rfl | rfl | rfl | rfl | rfl | rfl | rfl | rfl | rfl | rfl | rfl | rfl | rfl | rfl | rfl | rfl | rfl | rfl | rfl | rfl | rfl | rfl | rfl | rfl | rfl | rfl | rfl | rfl | rfl
 ·exact co_0 w
 ·exact co_1 w
 ·exact co_2 w
 ·exact co_3 w
 ·exact co_4 w
 ·exact co_5 w
 ·exact co_6 w
 ·exact co_7 w
 ·exact co_8 w
 ·exact co_9 w
 ·exact co_10 w
 ·exact co_11 w
 ·exact co_12 w
 ·exact co_13 w
 ·exact co_14 w
 ·exact co_15 w
 ·exact co_16 w
 ·exact co_17 w
 ·exact co_18 w
 ·exact co_19 w
 ·exact co_20 w
 ·exact co_21 w
 ·exact co_22 w
 ·exact co_23 w
 ·exact co_24 w
 ·exact co_25 w
 ·exact co_26 w
 ·exact co_27 w
 ·exact co_28 w
theorem co_blk {w : World} {r : Nat} {x0 x1 x2 x3 x4 x5 x6 : Value} {t : TypeId} (h : w.heap[r]? = some (.cells #[x0, x1, x2, x3, x4, x5, x6] t (0, 0))) (u0 u1 u2 u3 u4 u5 u6 : Value) :
  (((((((w.setCell ⟨r, 0, none⟩ (u0)).setCell ⟨r, 1, none⟩ (u1)).setCell ⟨r, 2, none⟩ (u2)).setCell ⟨r, 3, none⟩ (u3)).setCell ⟨r, 4, none⟩ (u4)).setCell ⟨r, 5, none⟩ (u5)).setCell ⟨r, 6, none⟩ (u6)).heap[r]? = some (.cells #[u0, u1, u2, u3, u4, u5, u6] t (0, 0)) := by
 have := blk_setCell (blk_setCell (blk_setCell (blk_setCell (blk_setCell (blk_setCell (blk_setCell h 0 u0) 1 u1) 2 u2) 3 u3) 4 u4) 5 u5) 6 u6
 simpa using this
theorem co_low {B : Nat} {a w : World} {r : Nat} (h : Below B a w) (hr : B ≤ r) (u0 u1 u2 u3 u4 u5 u6 : Value) : Below B a (((((((w.setCell ⟨r, 0, none⟩ (u0)).setCell ⟨r, 1, none⟩ (u1)).setCell ⟨r, 2, none⟩ (u2)).setCell ⟨r, 3, none⟩ (u3)).setCell ⟨r, 4, none⟩ (u4)).setCell ⟨r, 5, none⟩ (u5)).setCell ⟨r, 6, none⟩ (u6)) :=
 ((((((h.setCell hr _).setCell hr _).setCell hr _).setCell hr _).setCell hr _).setCell hr _).setCell hr _
theorem co_size {w : World} {r : Nat} {u0 u1 u2 u3 u4 u5 u6 : Value} : (((((((w.setCell ⟨r, 0, none⟩ (u0)).setCell ⟨r, 1, none⟩ (u1)).setCell ⟨r, 2, none⟩ (u2)).setCell ⟨r, 3, none⟩ (u3)).setCell ⟨r, 4, none⟩ (u4)).setCell ⟨r, 5, none⟩ (u5)).setCell ⟨r, 6, none⟩ (u6)).heap.size = w.heap.size := by simp [World.setCell]
theorem coIn_not {k : List UInt8} : ∀ {l : List Co} {n : Nat}, (∀ s ∈ l, s.kind ≠ k) → coIn l n k = (0, coN)
 | [], _, _ => rfl
 | s :: r, n, h => by rw [coIn, if_neg (h s (by simp)), coIn_not fun t ht => h t (by simp [ht])]
theorem coIn_at {k : List UInt8} : ∀ {l : List Co} {n q : Nat} (hq : q < l.length), (∀ j (hj : j < q), (l[j]'(by omega)).kind ≠ k) → l[q].kind = k → coIn l n k = (n + q + 1, l[q])
 | [], _, _, hq, _, _ => absurd hq (by simp)
 | s :: r, n, 0, _, _, h => by
  have h' : s.kind = k := h
  rw [coIn, if_pos h']; rfl
 | s :: r, n, q + 1, hq, h, h' => by
  have h0 : s.kind ≠ k := h 0 (by omega)
  rw [coIn, if_neg h0]
  have := coIn_at (l := r) (n := n + 1) (q := q) (by simpa using hq) (fun j hj => h (j + 1) (by omega)) h'
  rw [this, show n + 1 + q + 1 = n + (q + 1) + 1 from by omega]; rfl
def coNamed (k : List UInt8) : Nat × Co := coIn coL 0 k
set_option maxRecDepth 100000 in
set_option maxHeartbeats 1000000 in
theorem named_any (k : List UInt8) (w : World) (hT : TabC w) : Calls Tryd.prog 50 #[.string ⟨k.toArray⟩] w fun e w' => e = .returned (.tuple #[.int .i64 (coNamed k).1, coV (coNamed k).2]) ∧ Below w.heap.size w w' := by
 obtain ⟨t, ht⟩ := hT.tab
 have hlt := heap_lt ht
 have hb0 := box_blk w #[.string ⟨#[]⟩, .string ⟨#[]⟩, .bool false, .bool false, .bool false, .bool false, .bool false] 110
 have ht1 := (hb0.block _ hlt).trans ht
 have hix := fun i hi => co_index i hi
 have hsz : (Tryd.prog.info? 132).map (·.size) = some coT.toArray.size := by kernel_rfl
 generalize htb : coT.toArray = tb at ht1 hix hsz
 generalize hres : coNamed k = res
 have HRES := hidX hres
 have HIX := hidX hix
 clear htb ht hres hix hT
 go_enter Tryd.func50, Tryd.ntmps50
 go_wp2_with (first | (refine wpList_load_row rfl _ _ rfl 11 rfl t tb (0, 0) _ ht1 Tryd.underlying132 rfl hsz ?_) | fail)
 go_loopw [7] (fun vi wr => ∃ q : Nat, q ≤ 29 ∧ vi = .int .i64 q ∧ Below w.heap.size w wr ∧ w.heap.size < wr.heap.size ∧ wr.heap[w.heap.size]? = some (.cells #[.string ⟨#[]⟩, .string ⟨#[]⟩, .bool false, .bool false, .bool false, .bool false, .bool false] 110 (0, 0)) ∧ Hid (∀ j (hj : j < q) (hq : q ≤ coL.length), (coL[j]'(by omega)).kind ≠ k)) (fun vi _ => 29 - (intOf vi).toNat)
 case atStart => exact ⟨0, by omega, rfl, hb0, by simp, heap_alloc_new _ _, fun j hj => absurd hj (by omega)⟩
 case round =>
  obtain ⟨q, hq, rfl, hbl, hz, hbk, HNO⟩ := hrel
  have f0 := free_of_blk hbk 0
  have c0 := cell_of_blk hbk 0
  have f1 := free_of_blk hbk 1
  have c1 := cell_of_blk hbk 1
  have f2 := free_of_blk hbk 2
  have c2 := cell_of_blk hbk 2
  have f3 := free_of_blk hbk 3
  have c3 := cell_of_blk hbk 3
  have f4 := free_of_blk hbk 4
  have c4 := cell_of_blk hbk 4
  have f5 := free_of_blk hbk 5
  have c5 := cell_of_blk hbk 5
  have f6 := free_of_blk hbk 6
  have c6 := cell_of_blk hbk 6
  have HBK := hidX hbk
  by_cases hlt' : q < 29
  ·have hqi : (q : Int) < 29 := by omega
   have hi1 := HIX.out q hlt'
   have hk := fun (h : coL[q].kind = k) => coIn_at (l := coL) (n := 0) (q := q) hlt' (fun j hj => HNO.out j hj (Nat.le_of_lt hlt')) h
   have hno2 := fun (h : coL[q].kind ≠ k) (j : Nat) (hj : j < q + 1) (hq : q + 1 ≤ coL.length) => show (coL[j]'(by omega)).kind ≠ k from by
    by_cases e : j = q
    ·subst e; exact h
    ·exact HNO.out j (by omega) (by omega)
   generalize coL[q] = s at hi1 hk hno2
   have HK := hidX hk
   have HN2 := hidX hno2
   clear hk hno2 hbk
   by_cases e : s.kind = k
   ·have e' : (s.kind == k) = true := by simpa using e
    have HE := hidX (HRES.out.symm.trans (HK.out e))
    clear e HK HN2
    go_wp2_with fail
    go_region
    go_wp2
    have hx := co_blk HBK.out (.string ⟨s.kind.toArray⟩) (.string ⟨s.sg.toArray⟩) (.bool s.d) (.bool s.a) (.bool s.b) (.bool s.many) (.bool s.imm)
    have hb := co_low hbl (Nat.le_refl _) (.string ⟨s.kind.toArray⟩) (.string ⟨s.sg.toArray⟩) (.bool s.d) (.bool s.a) (.bool s.b) (.bool s.many) (.bool s.imm)
    have hsz2 := co_size (w := wr) (r := w.heap.size) (u0 := .string ⟨s.kind.toArray⟩) (u1 := .string ⟨s.sg.toArray⟩) (u2 := .bool s.d) (u3 := .bool s.a) (u4 := .bool s.b) (u5 := .bool s.many) (u6 := .bool s.imm)
    generalize ((((((wr.setCell ⟨w.heap.size, 0, none⟩ (.string ⟨s.kind.toArray⟩)).setCell ⟨w.heap.size, 1, none⟩ (.string ⟨s.sg.toArray⟩)).setCell ⟨w.heap.size, 2, none⟩ (.bool s.d)).setCell ⟨w.heap.size, 3, none⟩ (.bool s.a)).setCell ⟨w.heap.size, 4, none⟩ (.bool s.b)).setCell ⟨w.heap.size, 5, none⟩ (.bool s.many)).setCell ⟨w.heap.size, 6, none⟩ (.bool s.imm) = W at hx hb hsz2 ⊢
    refine ret_tmp_row w.heap.size 2 3 _ 110 _ rfl rfl rfl ((Below.heap_alloc W _ _ (by omega)).trans hx) Tryd.underlying110 (by kernel_rfl) ⟨?_, (hb.alloc (by omega) _).drew⟩
    rw [HE.out]
    simp
   ·have e' : (s.kind == k) = false := by simpa using e
    have HN := hidX (HN2.out e)
    clear HK HN2 e
    go_wp2
    go_roundw
    case rel => exact ⟨q + 1, by omega, by go_num, hbl.alloc (by omega) _, by simp; omega, (Below.heap_alloc _ _ _ hz).trans HBK.out, HN.out⟩
    case measure => simp [intOf]; omega
  ·have hq14 : q = 29 := by omega
   subst hq14
   clear hbk
   go_wp2
   have hx := co_blk HBK.out (.string ⟨#[]⟩) (.string ⟨#[]⟩) (.bool false) (.bool false) (.bool false) (.bool false) (.bool false)
   have hb := co_low hbl (Nat.le_refl _) (.string ⟨#[]⟩) (.string ⟨#[]⟩) (.bool false) (.bool false) (.bool false) (.bool false) (.bool false)
   have hr : res = (0, coN) := HRES.out.symm.trans (coIn_not (l := coL) fun s hs => by
    obtain ⟨j, hj, e⟩ := List.getElem_of_mem hs
    rw [← e]; exact HNO.out j hj (Nat.le_refl _))
   subst hr
   exact ret_tmp_row w.heap.size 2 3 _ 110 _ rfl rfl rfl hx Tryd.underlying110 (by kernel_rfl) ⟨rfl, hb⟩
theorem coT_at (q j : Nat) (hq : q < coL.length) (hj : j < 7) : coT[q * 7 + j]? = (coC coL[q])[j]? := by
 have : ∀ (l : List Co) (q : Nat) (hq : q < l.length), (l.flatMap coC)[q * 7 + j]? = (coC l[q])[j]? := by
  intro l
  induction l with
  | nil => intro q hq; simp at hq
  | cons s r ih =>
   intro q hq
   rw [List.flatMap_cons]
   have hl : (coC s).length = 7 := rfl
   cases q with
   | zero => rw [List.getElem?_append_left (by omega)]; simp
   | succ q =>
    rw [List.getElem?_append_right (by omega), show (q + 1) * 7 + j - (coC s).length = q * 7 + j from by omega]
    exact ih q (by simpa using hq)
 exact this coL q hq
theorem coL_len : coL.length = 29 := rfl
theorem cells_of {w : World} {b : Nat} {t : TypeId} (h : w.heap[b]? = some (.cells coT.toArray t (0, 0))) (q : Nat) (hq : q < coL.length) (j : Nat) (hj : j < 7) : w.cell? ⟨b, q * 7 + j, none⟩ = (coC coL[q])[j]? := by
 rw [cell_of_blk h, ← coT_at q j hq hj, List.getElem?_toArray]
theorem coNum_at (q : Nat) (hq : q < coL.length) : coNum (q + 1) = coL[q] := by
 unfold coNum
 rw [if_neg (by omega), Nat.add_sub_cancel, List.getElem?_eq_getElem hq]; rfl
set_option maxRecDepth 100000 in
set_option maxHeartbeats 1000000 in
theorem numbered_any (n : Nat) (hn : n < 256) (w : World) (hT : TabC w) : Calls Tryd.prog 48 #[.int .i64 n] w fun e w' => e = .returned (coV (coNum n)) ∧ Below w.heap.size w w' := by
 obtain ⟨t, ht⟩ := hT.tab
 have hlt := heap_lt ht
 have hb0 := box_blk w #[.string ⟨#[]⟩, .string ⟨#[]⟩, .bool false, .bool false, .bool false, .bool false, .bool false] 110
 have ht1 := (hb0.block _ hlt).trans ht
 have hn2 : (n : Int) < 256 := by omega
 by_cases h0 : n < 1
 ·have h0' : n = 0 := by omega
  subst h0'
  have hr : coNum 0 = coN := rfl
  rw [hr]
  clear ht ht1 hT hb0
  go_enter Tryd.func48, Tryd.ntmps48
  go_wp2
  exact ret_row w.heap.size 2 _ 110 rfl rfl (heap_alloc_new _ _) Tryd.underlying110 (by kernel_rfl) ⟨rfl, (Below.refl _ _).alloc (Nat.le_refl _) _⟩
 ·by_cases h29 : n ≤ 29
  ·obtain ⟨q, rfl⟩ : ∃ q, n = q + 1 := ⟨n - 1, by omega⟩
   have hq : q < coL.length := by rw [coL_len]; omega
   rw [coNum_at q hq]
   have hc := cells_of ht1 q hq
   generalize coL[q] = s at hc
   have c0 := hc 0 (by omega)
   have c1 := hc 1 (by omega)
   have c2 := hc 2 (by omega)
   have c3 := hc 3 (by omega)
   have c4 := hc 4 (by omega)
   have c5 := hc 5 (by omega)
   have c6 := hc 6 (by omega)
   simp only [coC, List.getElem?_cons_zero, List.getElem?_cons_succ, Nat.add_zero] at c0 c1 c2 c3 c4 c5 c6
   have hqi : (q : Int) < 29 := by rw [coL_len] at hq; omega
   clear ht ht1 hT hb0 hc
   go_enter Tryd.func48, Tryd.ntmps48
   go_wp2
   exact ret_row w.heap.size 2 _ 110 rfl rfl (heap_alloc_new _ _) Tryd.underlying110 (by kernel_rfl) ⟨rfl, (Below.refl _ _).alloc (Nat.le_refl _) _⟩
  ·have h29' : ¬ (n : Int) ≤ 29 := by omega
   have hg : (29 : Int) < n := by omega
   have h1 : ¬ (n : Int) < 1 := by omega
   have hr : coNum n = coN := by unfold coNum; rw [if_neg h0, List.getElem?_eq_none (by rw [coL_len]; omega)]; rfl
   rw [hr]
   clear ht ht1 hT hb0
   go_enter Tryd.func48, Tryd.ntmps48
   go_wp2
   exact ret_row w.heap.size 2 _ 110 rfl rfl (heap_alloc_new _ _) Tryd.underlying110 (by kernel_rfl) ⟨rfl, (Below.refl _ _).alloc (Nat.le_refl _) _⟩
end Go.Proofs.YtbcpomdcmilpjaaDoor
