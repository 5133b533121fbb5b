/- Our own: texts joined: PlCk1, PlCk2, PlCk3. -/
import Derived.Test.YtmckajgacfjnhaaGreatDoorQPlAll
import Derived.Test.YtmckajgacfjnhaaGreatDoorQPlTab
import Derived.Test.YtmckajgacfjnhaaGreatDoorQGrOps
import Derived.Shelf.Abstract
import Derived.Deep.DeepCutAuto
namespace Go.Proofs.YtmckajgacfjnhaaGreatDoor
open Go.RowKit
abbrev ckV (nm : List UInt8) (P V : Int) (bv mv : Value) : Array Value := #[.string ⟨nm.toArray⟩, .int .i64 P, .int .i64 V, bv, mv]
theorem range_all {α : Type} (f : α → Bool) (d : α) (l : List α) : ((List.range l.length).all fun q => f (l.getD q d)) = l.all f := by
 rw [Bool.eq_iff_iff, List.all_eq_true, List.all_eq_true]
 constructor
 ·intro h x hx
  obtain ⟨j, hj, rfl⟩ := List.getElem_of_mem hx
  have := h j (List.mem_range.2 hj)
  simpa [List.getD, hj] using this
 ·intro h q hq
  have hq' := List.mem_range.1 hq
  have := h _ (List.getElem_mem hq')
  simpa [List.getD, hq'] using this
set_option maxRecDepth 100000 in
set_option maxHeartbeats 2000000 in
theorem isValue_any {X : World} {cp : Nat} {nm : List UInt8} {P V : Int} {bv mv : Value} (hk : X.heap[cp]? = some (.cells (ckV nm P V bv mv) 72 (0, 0))) (v : Int) :
  Calls Tryz.prog 59 #[.pointer (some ⟨cp, 0, none⟩), .int .i64 v] X fun e w' => e = .returned (.bool (inV V v)) ∧ w' = X := by
 have k2 : X.cell? ⟨cp, 2, none⟩ = some (.int .i64 V) := cell_of_blk hk 2
 obtain ⟨r, hr⟩ : ∃ r, r = inV V v := ⟨_, rfl⟩
 rw [← hr]
 have HR := hidX hr
 clear hr hk
 by_cases h0 : 0 ≤ v
 ·by_cases h1 : v < V
  ·have hr : r = true := by rw [HR.out]; simp [inV]; omega
   subst hr
   go_enter Tryz.func59, Tryz.ntmps59
   go_wp2
   go_ret
   exact ⟨by first | rfl | (simp; done) | (simp; omega), rfl⟩
  ·have hr : r = false := by rw [HR.out]; simp [inV]; omega
   subst hr
   have h1' : V ≤ v := by omega
   go_enter Tryz.func59, Tryz.ntmps59
   go_wp2
   go_ret
   exact ⟨by first | rfl | (simp; done) | (simp; omega), rfl⟩
 ·have hr : r = false := by rw [HR.out]; simp [inV]; omega
  subst hr
  go_enter Tryz.func59, Tryz.ntmps59
  go_wp2
  go_ret
  exact ⟨by first | rfl | (simp; done) | (simp; omega), rfl⟩
set_option maxRecDepth 100000 in
set_option maxHeartbeats 2000000 in
theorem areValues_any {w : World} {cp : Nat} {nm : List UInt8} {P V : Int} {bv mv : Value} (hk : w.heap[cp]? = some (.cells (ckV nm P V bv mv) 72 (0, 0))) {ad : Option Addr} {cap : Nat} (l : List Int) (hn : l.length ≤ 100000) (hrow : XRow (InH w) w (.slice ad l.length cap) l.length (intsG l)) :
  Calls Tryz.prog 57 #[.pointer (some ⟨cp, 0, none⟩), .slice ad l.length cap] w fun e w' => e = .returned (.bool (l.all (inV V))) ∧ Below w.heap.size w w' := by
 have hso : SoC w l.length (fun _ => False) 59 #[.pointer (some ⟨cp, 0, none⟩)] #[] (fun q => .int .i64 (l.getD q 0)) (fun q => inV V (l.getD q 0)) (fun _ X => Below w.heap.size w X) (fun X => Below w.heap.size w X) := by
  refine ⟨enters_of Tryz.func59 (by kernel_rfl) rfl, fun _ h => h.elim, fun _ X Y h k => bl_trans h h.size k, fun q X hq hJ _ => ?_⟩
  have h := isValue_any ((hJ.block _ (heap_lt hk)).trans hk) (l.getD q 0)
  refine (show Calls Tryz.prog _ (#[.pointer (some ⟨cp, 0, none⟩), .int .i64 (l.getD q 0)]) X _ from h).mono ?_ |> fun h => by simpa using h
  rintro e w' ⟨rfl, rfl⟩
  exact ⟨rfl, ButP.refl' _ _, fun _ => hJ, fun _ => hJ⟩
 have HAL := hidX (allI_any (ad := ad) (cap := cap) hso hn (Below.refl _ _) hrow (fun b hb => ⟨hb, fun h => h.elim⟩) ⟨rfl, fun q hq => by simp [List.getD, hq]⟩)
 have HRA := hidX (range_all (inV V) 0 l)
 clear hso hrow hk
 go_enter Tryz.func57, Tryz.ntmps57
 go_wp2_with fail
 refine HAL.out.mono ?_
 rintro e W' ⟨r, rfl, h1, h2, h3, h4⟩
 have hr : r = l.all (inV V) := h1.trans HRA.out
 have HB := hidX (show Below w.heap.size w W' from by cases hc : r with | true => exact h3 hc | false => exact h4 hc)
 clear h1 h2 h3 h4
 subst hr
 go_wp2
 go_ret
 exact ⟨rfl, HB.out⟩
theorem fsh0 (k : List UInt8) (a : Int) (d n m : Bool) (w : World) : (Instr.field 124 (.agg #[.string ⟨k.toArray⟩, .int .i64 a, .bool d, .bool n, .bool m]) 0).run Tryz.prog w = .ok (.string ⟨k.toArray⟩) w := by kernel_rfl
theorem fsh2 (k : List UInt8) (a : Int) (d n m : Bool) (w : World) : (Instr.field 124 (.agg #[.string ⟨k.toArray⟩, .int .i64 a, .bool d, .bool n, .bool m]) 2).run Tryz.prog w = .ok (.bool d) w := by kernel_rfl
theorem fen0 (k : List UInt8) (a : Int) (v : Bool) (w : World) : (Instr.field 120 (.agg #[.string ⟨k.toArray⟩, .int .i64 a, .bool v]) 0).run Tryz.prog w = .ok (.string ⟨k.toArray⟩) w := by kernel_rfl
theorem fen2 (k : List UInt8) (a : Int) (v : Bool) (w : World) : (Instr.field 120 (.agg #[.string ⟨k.toArray⟩, .int .i64 a, .bool v]) 2).run Tryz.prog w = .ok (.bool v) w := by kernel_rfl
theorem pOp_is (ones twos : List (List UInt8)) (k m : List UInt8) : pOp ones twos k m = opB ones twos ⟨k, [], 0, m⟩ := rfl
theorem shapeOf_val (k : List UInt8) (w : World) (hT : TabP w) : Calls Tryz.prog 55 #[.string ⟨k.toArray⟩] w fun e w' => e = .returned (.agg #[.string ⟨(psh k).kind.toArray⟩, .int .i64 (psh k).args, .bool (psh k).d, .bool (psh k).num, .bool (psh k).name]) ∧ Below w.heap.size w w' := shapeOf_any k w hT
theorem endingOf_val (k : List UInt8) (w : World) (hT : TabE w) : Calls Tryz.prog 52 #[.string ⟨k.toArray⟩] w fun e w' => e = .returned (.agg #[.string ⟨(pen k).kind.toArray⟩, .int .i64 ((pen k).ways : Int), .bool (pen k).v]) ∧ Below w.heap.size w w' := endingOf_any k w hT
set_option maxRecDepth 100000 in
set_option maxHeartbeats 4000000 in
theorem hasKind1_any {w : World} {a : Nat → Addr} (hS : Sents w a) (hT : TabP w) (x : Pi) (ad : Option Addr) (cap : Nat) :
  Calls Tryz.prog 54 #[.agg #[.string ⟨x.kind.toArray⟩, .int .i64 x.d, .slice ad x.args.length cap, .int .i64 x.num, .string ⟨x.name.toArray⟩]] w fun e w' => e = .returned (.bool (pKind onesE twosE x)) ∧ Below w.heap.size w w' := by
 obtain ⟨k, d, args, num, name⟩ := x
 obtain ⟨W1, hW1⟩ : ∃ W1, W1 = w.alloc (.cells #[.string ⟨k.toArray⟩, .int .i64 d, .slice ad args.length cap, .int .i64 num, .string ⟨name.toArray⟩] 52) := ⟨_, rfl⟩
 have hb1 : Below w.heap.size w W1 := by rw [hW1]; (repeat (first | exact Below.refl _ _ | assumption | refine Below.drew ?_ | refine bT ?_ _ | refine bS ?_ _ | refine bA ?_ _))
 have hx1 : W1.heap[w.heap.size]? = some (.cells #[.string ⟨k.toArray⟩, .int .i64 d, .slice ad args.length cap, .int .i64 num, .string ⟨name.toArray⟩] 52 (0, 0)) := by rw [hW1]; exact heap_alloc_new _ _
 have HSH := hidX (shapeOf_val k W1 (hT.below hb1))
 have HPK := hidX (show pKind onesE twosE ⟨k, d, args, num, name⟩ = ((psh k).kind != [] && pOp onesE twosE k name) from rfl)
 have HX := hidX (fun (Y : World) (hY : Below W1.heap.size W1 Y) => (show Y.cell? ⟨w.heap.size, 0, none⟩ = some (.string ⟨k.toArray⟩) ∧ Y.cell? ⟨w.heap.size, 4, none⟩ = some (.string ⟨name.toArray⟩) from by
  have h := (hY.block _ (heap_lt hx1)).trans hx1
  exact ⟨cell_of_blk h 0, cell_of_blk h 4⟩))
 have HOP := hidX (fun (Y : World) (hY : Below W1.heap.size W1 Y) => hasOp_any a ⟨k, [], 0, name⟩ Y (hS.below (bl_trans hb1 hb1.size hY)))
 have HB1 := hidX hb1
 generalize (psh k).kind = sk at *
 generalize (psh k).args = sa at *
 generalize (psh k).d = sd at *
 generalize (psh k).num = sn at *
 generalize (psh k).name = sm at *
 have hf := fsh0 sk sa sd sn sm
 have c0 := (HX.out W1 (Below.refl _ _)).1
 clear hb1 hx1 hS hT
 by_cases hk : sk = []
 ·subst hk
  rw [HPK.out]
  clear HPK
  go_enter Tryz.func54, Tryz.ntmps54
  go_wp2_with fail
  rw [← hW1]
  clear hW1
  refine HSH.out.mono ?_
  rintro e W2 ⟨rfl, hb2⟩
  have HB2 := hidX (bl_trans HB1.out HB1.out.size hb2)
  clear hb2 c0
  go_wp2
  go_ret
  exact ⟨rfl, HB2.out⟩
 ·have t1 : sk.isEmpty = false := by cases sk with | nil => exact absurd rfl hk | cons _ _ => rfl
  have t2 : (sk != []) = true := by cases sk with | nil => exact absurd rfl hk | cons _ _ => rfl
  have hpk : pKind onesE twosE ⟨k, d, args, num, name⟩ = pOp onesE twosE k name := by rw [HPK.out, t2]; rfl
  rw [hpk, pOp_is]
  generalize opB onesE twosE ⟨k, [], 0, name⟩ = ob at *
  clear HPK hpk hk
  go_enter Tryz.func54, Tryz.ntmps54
  go_wp2_with fail
  rw [← hW1]
  clear hW1
  refine HSH.out.mono ?_
  rintro e W2 ⟨rfl, hb2⟩
  obtain ⟨d0, d4⟩ := HX.out W2 hb2
  have HB2 := hidX (bl_trans HB1.out HB1.out.size hb2)
  have HOP2 := hidX (HOP.out W2 hb2)
  clear hb2 c0
  go_wp2_with fail
  refine HOP2.out.mono ?_
  rintro e W3 ⟨rfl, hb3⟩
  have HB3 := hidX (bl_trans HB2.out HB2.out.size hb3)
  clear hb3 d0 d4
  go_wp2
  go_ret
  exact ⟨rfl, HB3.out⟩
end Go.Proofs.YtmckajgacfjnhaaGreatDoor
namespace Go.Proofs.YtmckajgacfjnhaaGreatDoor
open Go.RowKit
theorem three_ways (s b : Bool) : s = true ∨ (s = false ∧ b = true) ∨ (s = false ∧ b = false) := by cases s <;> cases b <;> simp
set_option maxRecDepth 100000 in
set_option maxHeartbeats 8000000 in
theorem shapedIns_any {w : World} (hT : TabP w) (x : Pi) (ad : Option Addr) (cap : Nat) :
  Calls Tryz.prog 63 #[.agg #[.string ⟨x.kind.toArray⟩, .int .i64 x.d, .slice ad x.args.length cap, .int .i64 x.num, .string ⟨x.name.toArray⟩]] w fun e w' => e = .returned (.bool (pShape x)) ∧ Below w.heap.size w w' := by
 obtain ⟨k, d, args, num, name⟩ := x
 obtain ⟨W1, hW1⟩ : ∃ W1, W1 = w.alloc (.cells #[.string ⟨k.toArray⟩, .int .i64 d, .slice ad args.length cap, .int .i64 num, .string ⟨name.toArray⟩] 52) := ⟨_, rfl⟩
 have hb1 : Below w.heap.size w W1 := by rw [hW1]; (repeat (first | exact Below.refl _ _ | assumption | refine Below.drew ?_ | refine bT ?_ _ | refine bS ?_ _ | refine bA ?_ _))
 have hx1 : W1.heap[w.heap.size]? = some (.cells #[.string ⟨k.toArray⟩, .int .i64 d, .slice ad args.length cap, .int .i64 num, .string ⟨name.toArray⟩] 52 (0, 0)) := by rw [hW1]; exact heap_alloc_new _ _
 have HSH := hidX (shapeOf_val k W1 (hT.below hb1))
 obtain ⟨b2, t2⟩ : ∃ b, (d == 0) = b := ⟨_, rfl⟩
 obtain ⟨b3, t3⟩ : ∃ b, (num == 0) = b := ⟨_, rfl⟩
 obtain ⟨b4, t4⟩ : ∃ b, name.isEmpty = b := ⟨_, rfl⟩
 have t4' : (name == []) = b4 := by rw [← t4]; cases name <;> rfl
 obtain ⟨mn, hmn⟩ : ∃ b, b = (decide ((psh k).args < 0) || (args.length : Int) == (psh k).args) := ⟨_, rfl⟩
 have hps : pShape ⟨k, d, args, num, name⟩ = (mn && ((psh k).d || b2) && ((psh k).num || b3) && ((psh k).name || b4)) := by
  rw [hmn, ← t2, ← t3, ← t4']; rfl
 rw [hps]
 have HX := hidX (fun (Y : World) (hY : Below W1.heap.size W1 Y) => (show Y.cell? ⟨w.heap.size, 1, none⟩ = some (.int .i64 d) ∧ Y.cell? ⟨w.heap.size, 2, none⟩ = some (.slice ad args.length cap) ∧ Y.cell? ⟨w.heap.size, 3, none⟩ = some (.int .i64 num) ∧ Y.cell? ⟨w.heap.size, 4, none⟩ = some (.string ⟨name.toArray⟩) from by
  have h := (hY.block _ (heap_lt hx1)).trans hx1
  exact ⟨cell_of_blk h 1, cell_of_blk h 2, cell_of_blk h 3, cell_of_blk h 4⟩))
 have HB1 := hidX hb1
 have HMN := hidX hmn
 have c0 : W1.cell? ⟨w.heap.size, 0, none⟩ = some (.string ⟨k.toArray⟩) := cell_of_blk hx1 0
 have hlt := heap_lt hx1
 generalize (psh k).kind = sk at *
 generalize (psh k).args = sa at *
 generalize (psh k).d = sd at *
 generalize (psh k).num = sn at *
 generalize (psh k).name = sm at *
 clear hb1 hx1 hT hps hmn t4'
 go_enter Tryz.func63, Tryz.ntmps63
 go_wp2_with fail
 rw [← hW1]
 clear hW1
 refine HSH.out.mono ?_
 rintro e W2 ⟨rfl, hb2⟩
 obtain ⟨W3, hW3⟩ : ∃ W3, W3 = W2.alloc (.cells #[.string ⟨sk.toArray⟩, .int .i64 sa, .bool sd, .bool sn, .bool sm] 124) := ⟨_, rfl⟩
 have hb23 : Below W2.heap.size W2 W3 := by rw [hW3]; (repeat (first | exact Below.refl _ _ | assumption | refine Below.drew ?_ | refine bT ?_ _ | refine bS ?_ _ | refine bA ?_ _))
 have hx3 : W3.heap[W2.heap.size]? = some (.cells #[.string ⟨sk.toArray⟩, .int .i64 sa, .bool sd, .bool sn, .bool sm] 124 (0, 0)) := by rw [hW3]; exact heap_alloc_new _ _
 have hb3 : Below W1.heap.size W1 W3 := bl_trans hb2 hb2.size hb23
 obtain ⟨d1, d2, d3, d4⟩ := HX.out W3 hb3
 have s1 : W3.cell? ⟨W2.heap.size, 1, none⟩ = some (.int .i64 sa) := cell_of_blk hx3 1
 have s2 : W3.cell? ⟨W2.heap.size, 2, none⟩ = some (.bool sd) := cell_of_blk hx3 2
 have s3 : W3.cell? ⟨W2.heap.size, 3, none⟩ = some (.bool sn) := cell_of_blk hx3 3
 have s4 : W3.cell? ⟨W2.heap.size, 4, none⟩ = some (.bool sm) := cell_of_blk hx3 4
 have HF := hidX (bl_trans HB1.out HB1.out.size hb3)
 clear hb2 hb23 hx3 hb3 c0
 go_upto_region 2 with fail
 rw [← hW3]
 clear hW3
 go_cut [4] (fun v wc => wc = W3 ∧ v = .bool mn)
 case first =>
  by_cases h0 : sa < 0
  ·have hm : mn = true := by rw [HMN.out]; simp [h0]
   subst hm
   go_wp2_with fail
   go_meet
   case rel => exact ⟨rfl, by first | rfl | (simp; done) | (simp; omega)⟩
  ·obtain ⟨b1, t1⟩ : ∃ b, ((args.length : Int) == sa) = b := ⟨_, rfl⟩
   have hm : mn = b1 := by rw [HMN.out, t1]; simp [h0]
   subst hm
   go_wp2_with fail
   go_meet
   case rel => exact ⟨rfl, by first | rfl | (simp; done) | (simp; omega)⟩
 case rest =>
 obtain ⟨hwc, rfl⟩ := hcut
 replace hwc := hwc.symm
 subst hwc
 cases mn
 ·go_wp2
  go_ret
  exact ⟨rfl, HF.out⟩
 ·rcases three_ways sd b2 with rfl | ⟨rfl, rfl⟩ | ⟨rfl, rfl⟩ <;> rcases three_ways sn b3 with rfl | ⟨rfl, rfl⟩ | ⟨rfl, rfl⟩ <;> rcases three_ways sm b4 with rfl | ⟨rfl, rfl⟩ | ⟨rfl, rfl⟩
  all_goals
   go_wp2
   go_ret
   exact ⟨by simp, HF.out⟩
set_option maxRecDepth 100000 in
set_option maxHeartbeats 8000000 in
theorem boundedIns_any {w : World} (hT : TabP w) {cp : Nat} {nm : List UInt8} {P V : Int} {bv mv : Value} (hk : w.heap[cp]? = some (.cells (ckV nm P V bv mv) 72 (0, 0))) (x : Pi) (hn : x.args.length ≤ 100000) (ad : Option Addr) (cap : Nat) (hrow : XRow (InH w) w (.slice ad x.args.length cap) x.args.length (intsG x.args)) :
  Calls Tryz.prog 58 #[.pointer (some ⟨cp, 0, none⟩), .agg #[.string ⟨x.kind.toArray⟩, .int .i64 x.d, .slice ad x.args.length cap, .int .i64 x.num, .string ⟨x.name.toArray⟩]] w fun e w' => e = .returned (.bool (pBound V P x)) ∧ Below w.heap.size w w' := by
 obtain ⟨k, d, args, num, name⟩ := x
 simp only at hn hrow
 obtain ⟨W1, hW1⟩ : ∃ W1, W1 = w.alloc (.cells #[.string ⟨k.toArray⟩, .int .i64 d, .slice ad args.length cap, .int .i64 num, .string ⟨name.toArray⟩] 52) := ⟨_, rfl⟩
 have hb1 : Below w.heap.size w W1 := by rw [hW1]; (repeat (first | exact Below.refl _ _ | assumption | refine Below.drew ?_ | refine bT ?_ _ | refine bS ?_ _ | refine bA ?_ _))
 have hx1 : W1.heap[w.heap.size]? = some (.cells #[.string ⟨k.toArray⟩, .int .i64 d, .slice ad args.length cap, .int .i64 num, .string ⟨name.toArray⟩] 52 (0, 0)) := by rw [hW1]; exact heap_alloc_new _ _
 have HSH := hidX (shapeOf_val k W1 (hT.below hb1))
 have HCK := hidX (fun (Y : World) (hY : Below W1.heap.size W1 Y) => show Y.heap[cp]? = some (.cells (ckV nm P V bv mv) 72 (0, 0)) from ((bl_trans hb1 hb1.size hY).block _ (heap_lt hk)).trans hk)
 have HAV := hidX (fun (Y : World) (hY : Below W1.heap.size W1 Y) => areValues_any (HCK.out Y hY) args hn (hrow.imp (inH_up (bl_trans hb1 hb1.size hY)) (keepH (bl_trans hb1 hb1.size hY))))
 have HUP := hidX (fun (Y : World) (hY : Below W1.heap.size W1 Y) => bl_trans hb1 hb1.size hY)
 have hps : pBound V P ⟨k, d, args, num, name⟩ = ((!(psh k).d || inV V d) && (k != gParam || inV P num) && args.all (inV V)) := rfl
 rw [hps]
 have HX := hidX (fun (Y : World) (hY : Below W1.heap.size W1 Y) => (show Y.cell? ⟨w.heap.size, 0, none⟩ = some (.string ⟨k.toArray⟩) ∧ Y.cell? ⟨w.heap.size, 1, none⟩ = some (.int .i64 d) ∧ Y.cell? ⟨w.heap.size, 2, none⟩ = some (.slice ad args.length cap) ∧ Y.cell? ⟨w.heap.size, 3, none⟩ = some (.int .i64 num) ∧ Y.cell? ⟨cp, 1, none⟩ = some (.int .i64 P) from by
  have h := (hY.block _ (heap_lt hx1)).trans hx1
  exact ⟨cell_of_blk h 0, cell_of_blk h 1, cell_of_blk h 2, cell_of_blk h 3, cell_of_blk (HCK.out Y hY) 1⟩))
 have c0 : W1.cell? ⟨w.heap.size, 0, none⟩ = some (.string ⟨k.toArray⟩) := cell_of_blk hx1 0
 have hf := fsh2 (psh k).kind (psh k).args (psh k).d (psh k).num (psh k).name
 generalize (psh k).kind = sk at *
 generalize (psh k).args = sa at *
 generalize (psh k).d = sd at *
 generalize (psh k).num = sn at *
 generalize (psh k).name = sm at *
 generalize args.all (inV V) = aa at *
 obtain ⟨iv, hiv⟩ : ∃ b, b = inV V d := ⟨_, rfl⟩
 rw [← hiv]
 have HIV := hidX (fun (Y : World) (hY : Below W1.heap.size W1 Y) => isValue_any (HCK.out Y hY) d)
 rw [← hiv] at HIV
 obtain ⟨pk, hpk⟩ : ∃ b, b = (k != gParam) := ⟨_, rfl⟩
 obtain ⟨iv2, hiv2⟩ : ∃ b, b = inV P num := ⟨_, rfl⟩
 rw [← hpk, ← hiv2]
 have HPK := hidX hpk
 have HIN := hidX hiv2
 clear hb1 hx1 hT hps hk hrow hn hiv hpk hiv2
 cases sd
 ·go_enter Tryz.func58, Tryz.ntmps58
  go_wp2_with fail
  rw [← hW1]
  clear hW1
  refine HSH.out.mono ?_
  rintro e W2 ⟨rfl, hb2⟩
  have HY := hidX hb2
  obtain ⟨d0, d1, d2, d3, p1⟩ := HX.out W2 hb2
  clear hb2 c0
  by_cases hp : k = gParam
  ·have tp : (k == [112, 97, 114, 97, 109]) = true := by rw [hp]; decide
   have hpe : pk = false := by rw [HPK.out, hp]; decide
   subst hpe
   clear hp
   by_cases h0 : num < 0
   ·have hie : iv2 = false := by rw [HIN.out]; simp [inV]; omega
    subst hie
    go_wp2_with fail
    go_quiet (fail)
    go_wp2
    go_ret
    exact ⟨by first | rfl | (simp; done), HUP.out _ (bT HY.out _)⟩
   ·have h0' : 0 ≤ num := by omega
    by_cases h1 : num < P
    ·have hie : iv2 = true := by rw [HIN.out]; simp [inV]; omega
     subst hie
     go_wp2_with fail
     go_quiet (fail)
     go_wp2_with fail
     refine (HAV.out _ (bT HY.out _)).mono ?_
     rintro e W5 ⟨rfl, hb5⟩
     have HF := hidX (HUP.out W5 (bl_trans (bT HY.out _) (bT HY.out _).size hb5))
     clear hb5
     go_wp2
     go_ret
     exact ⟨by first | rfl | (simp; done), HF.out⟩
    ·have h1' : P ≤ num := by omega
     have hie : iv2 = false := by rw [HIN.out]; simp [inV]; omega
     subst hie
     go_wp2_with fail
     go_quiet (fail)
     go_wp2
     go_ret
     exact ⟨by first | rfl | (simp; done), HUP.out _ (bT HY.out _)⟩
  ·have tp : (k == [112, 97, 114, 97, 109]) = false := ne_lit hp
   have hpe : pk = true := by rw [HPK.out, bne, beq_eq_false_iff_ne.2 hp]; rfl
   subst hpe
   clear hp
   go_wp2_with fail
   go_quiet (fail)
   go_wp2_with fail
   refine (HAV.out _ (bT HY.out _)).mono ?_
   rintro e W5 ⟨rfl, hb5⟩
   have HF := hidX (HUP.out W5 (bl_trans (bT HY.out _) (bT HY.out _).size hb5))
   clear hb5
   go_wp2
   go_ret
   exact ⟨by first | rfl | (simp; done), HF.out⟩
 ·cases iv
  ·go_enter Tryz.func58, Tryz.ntmps58
   go_wp2_with fail
   rw [← hW1]
   clear hW1
   refine HSH.out.mono ?_
   rintro e W2 ⟨rfl, hb2⟩
   have HY := hidX hb2
   obtain ⟨d0, d1, d2, d3, p1⟩ := HX.out W2 hb2
   have HIV2 := hidX (HIV.out W2 hb2)
   clear hb2 c0
   go_wp2_with fail
   refine HIV2.out.mono ?_
   rintro e W3 ⟨rfl, hh⟩
   replace hh := hh.symm
   subst hh
   have HF := hidX (HUP.out _ HY.out)
   go_wp2
   go_ret
   exact ⟨rfl, HF.out⟩
  ·go_enter Tryz.func58, Tryz.ntmps58
   go_wp2_with fail
   rw [← hW1]
   clear hW1
   refine HSH.out.mono ?_
   rintro e W2 ⟨rfl, hb2⟩
   have HY := hidX hb2
   obtain ⟨d0, d1, d2, d3, p1⟩ := HX.out W2 hb2
   have HIV2 := hidX (HIV.out W2 hb2)
   clear hb2 c0
   go_wp2_with fail
   refine HIV2.out.mono ?_
   rintro e W3 ⟨rfl, hh⟩
   replace hh := hh.symm
   subst hh
   by_cases hp : k = gParam
   ·have tp : (k == [112, 97, 114, 97, 109]) = true := by rw [hp]; decide
    have hpe : pk = false := by rw [HPK.out, hp]; decide
    subst hpe
    clear hp
    by_cases h0 : num < 0
    ·have hie : iv2 = false := by rw [HIN.out]; simp [inV]; omega
     subst hie
     go_wp2_with fail
     go_quiet (fail)
     go_wp2
     go_ret
     exact ⟨by first | rfl | (simp; done), HUP.out _ (bT HY.out _)⟩
    ·have h0' : 0 ≤ num := by omega
     by_cases h1 : num < P
     ·have hie : iv2 = true := by rw [HIN.out]; simp [inV]; omega
      subst hie
      go_wp2_with fail
      go_quiet (fail)
      go_wp2_with fail
      refine (HAV.out _ (bT HY.out _)).mono ?_
      rintro e W5 ⟨rfl, hb5⟩
      have HF := hidX (HUP.out W5 (bl_trans (bT HY.out _) (bT HY.out _).size hb5))
      clear hb5
      go_wp2
      go_ret
      exact ⟨by first | rfl | (simp; done), HF.out⟩
     ·have h1' : P ≤ num := by omega
      have hie : iv2 = false := by rw [HIN.out]; simp [inV]; omega
      subst hie
      go_wp2_with fail
      go_quiet (fail)
      go_wp2
      go_ret
      exact ⟨by first | rfl | (simp; done), HUP.out _ (bT HY.out _)⟩
   ·have tp : (k == [112, 97, 114, 97, 109]) = false := ne_lit hp
    have hpe : pk = true := by rw [HPK.out, bne, beq_eq_false_iff_ne.2 hp]; rfl
    subst hpe
    clear hp
    go_wp2_with fail
    go_quiet (fail)
    go_wp2_with fail
    refine (HAV.out _ (bT HY.out _)).mono ?_
    rintro e W5 ⟨rfl, hb5⟩
    have HF := hidX (HUP.out W5 (bl_trans (bT HY.out _) (bT HY.out _).size hb5))
    clear hb5
    go_wp2
    go_ret
    exact ⟨by first | rfl | (simp; done), HF.out⟩
end Go.Proofs.YtmckajgacfjnhaaGreatDoor
namespace Go.Proofs.YtmckajgacfjnhaaGreatDoor
open Go.RowKit
set_option maxRecDepth 100000 in
set_option maxHeartbeats 2000000 in
theorem bounded1_any {X : World} {cp kb : Nat} {nm : List UInt8} {P V : Int} {ba : Option Addr} {N bc : Nat} {mv : Value} (hN : N ≤ 100000) (hk : X.heap[cp]? = some (.cells (ckV nm P V (.slice ba N bc) mv) 72 (0, 0))) (hb : X.heap[kb]? = some (.cells #[.pointer (some ⟨cp, 0, none⟩)] 69 (0, 0))) (v : Int) :
  Calls Tryz.prog 61 #[.int .i64 v, .pointer (some ⟨kb, 0, none⟩)] X fun e w' => e = .returned (.bool (inV (N : Int) v)) ∧ w' = X := by
 have k3 : X.cell? ⟨cp, 3, none⟩ = some (.slice ba N bc) := cell_of_blk hk 3
 have kb0 : X.cell? ⟨kb, 0, none⟩ = some (.pointer (some ⟨cp, 0, none⟩)) := cell_of_blk hb 0
 have hN' : (N : Int) ≤ 100000 := by omega
 obtain ⟨r, hr⟩ : ∃ r, r = inV (N : Int) v := ⟨_, rfl⟩
 rw [← hr]
 have HR := hidX hr
 clear hr hk hb
 by_cases h0 : 0 ≤ v
 ·by_cases h1 : v < (N : Int)
  ·have hr : r = true := by rw [HR.out]; simp [inV]; omega
   subst hr
   go_enter Tryz.func61, Tryz.ntmps61
   go_wp2
   go_ret
   exact ⟨by first | rfl | (simp; done) | (simp; omega), rfl⟩
  ·have hr : r = false := by rw [HR.out]; simp [inV]; omega
   subst hr
   have h1' : (N : Int) ≤ v := by omega
   go_enter Tryz.func61, Tryz.ntmps61
   go_wp2
   go_ret
   exact ⟨by first | rfl | (simp; done) | (simp; omega), rfl⟩
 ·have hr : r = false := by rw [HR.out]; simp [inV]; omega
  subst hr
  go_enter Tryz.func61, Tryz.ntmps61
  go_wp2
  go_ret
  exact ⟨by first | rfl | (simp; done) | (simp; omega), rfl⟩
def InsAt (A : Nat → Prop) (w : World) (ad : Option Addr) (L : List Pi) (q : Nat) (hq : q < L.length) (v : Value) : Prop :=
 ∃ g off ad1 cap1, ad = some ⟨g, off, none⟩ ∧ A g ∧ XRow A w (.slice ad1 L[q].args.length cap1) L[q].args.length (intsG L[q].args) ∧ w.cell? ⟨g, off + q * 5, none⟩ = some (.string ⟨L[q].kind.toArray⟩) ∧ w.cell? ⟨g, off + q * 5 + 1, none⟩ = some (.int .i64 L[q].d) ∧ w.cell? ⟨g, off + q * 5 + 2, none⟩ = some (.slice ad1 L[q].args.length cap1) ∧ w.cell? ⟨g, off + q * 5 + 3, none⟩ = some (.int .i64 L[q].num) ∧ w.cell? ⟨g, off + q * 5 + 4, none⟩ = some (.string ⟨L[q].name.toArray⟩) ∧
  v = .agg #[.string ⟨L[q].kind.toArray⟩, .int .i64 L[q].d, .slice ad1 L[q].args.length cap1, .int .i64 L[q].num, .string ⟨L[q].name.toArray⟩]
theorem XIs.els {A : Nat → Prop} {w : World} {ad : Option Addr} {l cap : Nat} {L : List Pi} (h : XIs A w (.slice ad l cap) L) : ∃ el : Nat → Value, ∀ q (hq : q < L.length), InsAt A w ad L q hq (el q) := by
 have : ∀ q, ∃ v, ∀ hq : q < L.length, InsAt A w ad L q hq v := fun q => by
  by_cases hq : q < L.length
  ·obtain ⟨g, off, ad1, cap1, e, hg, hr, k0, k1, k2, k3, k4⟩ := h.ins hq
   exact ⟨.agg #[.string ⟨L[q].kind.toArray⟩, .int .i64 L[q].d, .slice ad1 L[q].args.length cap1, .int .i64 L[q].num, .string ⟨L[q].name.toArray⟩], fun _ => ⟨g, off, ad1, cap1, e, hg, hr, k0, k1, k2, k3, k4, rfl⟩⟩
  ·exact ⟨.nilIface, fun h => absurd h hq⟩
 obtain ⟨f, hf⟩ := Classical.axiomOfChoice this
 exact ⟨f, fun q hq => hf q hq⟩
def RowAt (A : Nat → Prop) (w : World) (ad : Option Addr) (L : List (List Int)) (q : Nat) (hq : q < L.length) (v : Value) : Prop :=
 ∃ g off ad1 cap1, ad = some ⟨g, off, none⟩ ∧ A g ∧ XRow A w (.slice ad1 L[q].length cap1) L[q].length (intsG L[q]) ∧ w.cell? ⟨g, off + q, none⟩ = some (.slice ad1 L[q].length cap1) ∧ v = .slice ad1 L[q].length cap1
theorem XWs.els {A : Nat → Prop} {w : World} {ad : Option Addr} {l cap : Nat} {L : List (List Int)} (h : XWs A w (.slice ad l cap) L) : ∃ el : Nat → Value, ∀ q (hq : q < L.length), RowAt A w ad L q hq (el q) := by
 have : ∀ q, ∃ v, ∀ hq : q < L.length, RowAt A w ad L q hq v := fun q => by
  by_cases hq : q < L.length
  ·obtain ⟨g, off, ad1, cap1, e, hg, hr, k0⟩ := h.row hq
   exact ⟨.slice ad1 L[q].length cap1, fun _ => ⟨g, off, ad1, cap1, e, hg, hr, k0, rfl⟩⟩
  ·exact ⟨.nilIface, fun h => absurd h hq⟩
 obtain ⟨f, hf⟩ := Classical.axiomOfChoice this
 exact ⟨f, fun q hq => hf q hq⟩
def piD : Pi := ⟨[], 0, [], 0, []⟩
theorem all_bl {w W' : World} {n : Nat} {S : Nat → Prop} {p : Nat → Bool} {r : Bool} (h : AllTo w n S p (fun _ X => Below w.heap.size w X) (fun X => Below w.heap.size w X) r W') : r = (List.range n).all p ∧ Below w.heap.size w W' := by
 obtain ⟨h1, _, h3, h4⟩ := h
 refine ⟨h1, ?_⟩
 cases hc : r with
 | true => exact h3 hc
 | false => exact h4 hc
theorem allIns_look {w : World} {f0 : FuncId} {bnd : Array Value} {ad : Option Addr} {cap : Nat} {L : List Pi} (hn : L.length ≤ 100000) (hrow : XIs (InH w) w (.slice ad L.length cap) L) (ent : ∀ args X, (callFunc f0 args).run Tryz.prog X = .ok (.enter f0 args) X) (p : Pi → Bool)
  (hc : ∀ x ∈ L, ∀ X, Below w.heap.size w X → ∀ ad1 cap1, XRow (InH X) X (.slice ad1 x.args.length cap1) x.args.length (intsG x.args) → Calls Tryz.prog f0 (bnd.push (.agg #[.string ⟨x.kind.toArray⟩, .int .i64 x.d, .slice ad1 x.args.length cap1, .int .i64 x.num, .string ⟨x.name.toArray⟩]) ++ #[]) X fun e w' => e = .returned (.bool (p x)) ∧ Below X.heap.size X w') :
  Calls Tryz.prog 53 #[.slice ad L.length cap, .func (.func f0) bnd #[]] w fun e w' => e = .returned (.bool (L.all p)) ∧ Below w.heap.size w w' := by
 obtain ⟨el, hel⟩ := hrow.els
 have hso : SoC w L.length (fun _ => False) f0 bnd #[] el (fun q => p (L.getD q piD)) (fun _ X => Below w.heap.size w X) (fun X => Below w.heap.size w X) := by
  refine ⟨ent, fun _ h => h.elim, fun _ X Y h k => bl_trans h h.size k, fun q X hq hJ _ => ?_⟩
  obtain ⟨g, off, ad1, cap1, _, _, hr, _, _, _, _, _, hv⟩ := hel q hq
  rw [hv, show L.getD q piD = L[q] from by simp [List.getD, hq]]
  refine (hc _ (List.getElem_mem hq) X hJ ad1 cap1 (hr.imp (inH_up hJ) (keepH hJ))).mono ?_
  rintro e w' ⟨rfl, hb⟩
  have hb2 := bl_trans hJ hJ.size hb
  exact ⟨rfl, ButP.of hb, fun _ => hb2, fun _ => hb2⟩
 refine (allN_any (ad := ad) (cap := cap) hso hn (Below.refl _ _) (l := L) rfl (A := InH w) (fun b hb => ⟨hb, fun h => h.elim⟩) (fun q hq => by
  obtain ⟨g, off, ad1, cap1, e, hg, _, k0, k1, k2, k3, k4, hv⟩ := hel q hq
  exact ⟨g, off, ad1, cap1, e, hg, k0, k1, k2, k3, k4, hv⟩)).mono ?_
 rintro e W' ⟨r, rfl, h⟩
 obtain ⟨h1, h2⟩ := all_bl h
 rw [range_all p piD L] at h1
 exact ⟨by rw [h1], h2⟩
set_option maxRecDepth 100000 in
set_option maxHeartbeats 4000000 in
theorem hasKinds_any {w : World} {a : Nat → Addr} (hS : Sents w a) (hT : TabP w) (hE : TabE w) (b : Pb) (pv tv wv : Value) (hpv : ∃ x n c, pv = .slice x n c) (htv : ∃ x n c, tv = .slice x n c) (hwv : ∃ x n c, wv = .slice x n c) (ia : Option Addr) (ic : Nat) (hn : b.ins.length ≤ 100000) (hI : XIs (InH w) w (.slice ia b.ins.length ic) b.ins) :
  Calls Tryz.prog 34 #[.agg #[pv, .slice ia b.ins.length ic, .string ⟨b.fin.toArray⟩, .int .i64 b.v, tv, wv]] w fun e w' => e = .returned (.bool (bKind onesE twosE b)) ∧ Below w.heap.size w w' := by
 obtain ⟨p1, p2, p3, rfl⟩ := hpv
 obtain ⟨q1, q2, q3, rfl⟩ := htv
 obtain ⟨r1, r2, r3, rfl⟩ := hwv
 obtain ⟨W1, hW1⟩ : ∃ W1, W1 = w.alloc (.cells #[.slice p1 p2 p3, .slice ia b.ins.length ic, .string ⟨b.fin.toArray⟩, .int .i64 b.v, .slice q1 q2 q3, .slice r1 r2 r3] 56) := ⟨_, rfl⟩
 have hb1 : Below w.heap.size w W1 := by rw [hW1]; (repeat (first | exact Below.refl _ _ | assumption | refine Below.drew ?_ | refine bT ?_ _ | refine bS ?_ _ | refine bA ?_ _))
 have hx1 : W1.heap[w.heap.size]? = some (.cells #[.slice p1 p2 p3, .slice ia b.ins.length ic, .string ⟨b.fin.toArray⟩, .int .i64 b.v, .slice q1 q2 q3, .slice r1 r2 r3] 56 (0, 0)) := by rw [hW1]; exact heap_alloc_new _ _
 have HEN := hidX (endingOf_val b.fin W1 (hE.below hb1))
 have HBK := hidX (show bKind onesE twosE b = ((pen b.fin).kind != [] && b.ins.all (pKind onesE twosE)) from rfl)
 have HX := hidX (fun (Y : World) (hY : Below W1.heap.size W1 Y) => (show Y.cell? ⟨w.heap.size, 1, none⟩ = some (.slice ia b.ins.length ic) from cell_of_blk ((hY.block _ (heap_lt hx1)).trans hx1) 1))
 have HAL := hidX (fun (Y : World) (hY : Below W1.heap.size W1 Y) => allIns_look (bnd := #[]) (f0 := 54) hn (hI.imp (inH_up (bl_trans hb1 hb1.size hY)) (keepH (bl_trans hb1 hb1.size hY))) (enters_of Tryz.func54 (by kernel_rfl) rfl) (pKind onesE twosE) (fun x _ X hX ad1 cap1 _ => by
  have hwX := bl_trans (bl_trans hb1 hb1.size hY) (bl_trans hb1 hb1.size hY).size hX
  exact hasKind1_any (hS.below hwX) (hT.below hwX) x ad1 cap1))
 have HB1 := hidX hb1
 have hf := fen0 (pen b.fin).kind ((pen b.fin).ways : Int) (pen b.fin).v
 have c2 : W1.cell? ⟨w.heap.size, 2, none⟩ = some (.string ⟨b.fin.toArray⟩) := cell_of_blk hx1 2
 generalize (pen b.fin).kind = sk at *
 generalize ((pen b.fin).ways : Int) = sa at *
 generalize (pen b.fin).v = sv at *
 clear hb1 hx1 hS hT hE hI hn
 by_cases hk : sk = []
 ·subst hk
  rw [HBK.out]
  clear HBK
  go_enter Tryz.func34, Tryz.ntmps34
  go_wp2_with fail
  rw [← hW1]
  clear hW1
  refine HEN.out.mono ?_
  rintro e W2 ⟨rfl, hb2⟩
  have HB2 := hidX (bl_trans HB1.out HB1.out.size hb2)
  clear hb2 c2
  go_wp2
  go_ret
  exact ⟨rfl, HB2.out⟩
 ·have t1 : sk.isEmpty = false := by cases sk with | nil => exact absurd rfl hk | cons _ _ => rfl
  have t2 : (sk != []) = true := by cases sk with | nil => exact absurd rfl hk | cons _ _ => rfl
  have hpk : bKind onesE twosE b = b.ins.all (pKind onesE twosE) := by rw [HBK.out, t2]; rfl
  rw [hpk]
  generalize b.ins.all (pKind onesE twosE) = ob at *
  clear HBK hpk hk
  go_enter Tryz.func34, Tryz.ntmps34
  go_wp2_with fail
  rw [← hW1]
  clear hW1
  refine HEN.out.mono ?_
  rintro e W2 ⟨rfl, hb2⟩
  have d1 := HX.out W2 hb2
  have HB2 := hidX (bl_trans HB1.out HB1.out.size hb2)
  have HOP2 := hidX (HAL.out W2 hb2)
  clear hb2 c2
  go_wp2_with fail
  refine HOP2.out.mono ?_
  rintro e W3 ⟨rfl, hb3⟩
  have HB3 := hidX (bl_trans HB2.out HB2.out.size hb3)
  clear hb3 d1
  go_wp2
  go_ret
  exact ⟨rfl, HB3.out⟩
end Go.Proofs.YtmckajgacfjnhaaGreatDoor
