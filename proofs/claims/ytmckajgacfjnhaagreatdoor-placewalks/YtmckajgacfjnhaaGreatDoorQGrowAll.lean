/- Our own: texts joined: PlGrow, PlLarge, PlBox. -/
import Derived.Test.YtmckajgacfjnhaaGreatDoorQAppAll
import Derived.Test.YtmckajgacfjnhaaGreatDoorQPlMR
import Derived.Test.YtmckajgacfjnhaaGreatDoorQBase
import Derived.Deep.DeepCutAuto
import Derived.Test.YtmckajgacfjnhaaGreatDoorQTools
import Derived.Test.YtmckajgacfjnhaaGreatDoorQRets
namespace Go.Proofs.YtmckajgacfjnhaaGreatDoor
open Go.RowKit
structure GrowAt {α : Type} (Rep : (Nat → Prop) → World → α → List Value → Prop) (X0 X : World) (r f : Nat) (cells : Array Value) (bt et : TypeId) (n : Nat) (lv : Value) (K : List α) : Prop where
 low : But r X0 X
 rlt : r < X0.heap.size
 box : X.heap[r]? = some (.cells (cells.setIfInBounds f lv) bt (0, 0))
 row : ∃ xs, X.ownsRow X0.heap.size et n lv K.length xs ∧ XSs (Rep (KA X0.heap.size X lv) X) K xs
section
variable {α : Type} {Rep : (Nat → Prop) → World → α → List Value → Prop}
theorem GrowAt.start {X0 : World} {r f : Nat} {cells : Array Value} {bt et : TypeId} {n : Nat} (h : X0.heap[r]? = some (.cells cells bt (0, 0))) (hf : cells.setIfInBounds f (.slice none 0 0) = cells) : GrowAt Rep X0 X0 r f cells bt et n (.slice none 0 0) [] :=
 ⟨But.refl _ _, heap_lt h, by rw [hf]; exact h, [], World.ownsRow_nil _ _ _ _, rfl⟩
theorem GrowAt.push (impR : ∀ {A C : Nat → Prop} {w w' : World}, (∀ b, A b → C b) → KeepA A w w' → ∀ l xs, Rep A w l xs → Rep C w' l xs)
  {X0 X W3 Z : World} {r f : Nat} {cells : Array Value} {bt et : TypeId} {n : Nat} {lv lv' : Value} {K : List α} {x : α} {xs cs : List Value} {W4 : World} (h : GrowAt Rep X0 X r f cells bt et n lv K) (ho : X.ownsRow X0.heap.size et n lv K.length xs) (hx : XSs (Rep (KA X0.heap.size X lv) X) K xs)
  (h3 : Below X.heap.size X W3) (hi : Rep (Nw X W3) W3 x cs) (h4 : Below W3.heap.size W3 W4) (hg : W4.grownBy Z lv.ownBlock)
  (hz : Z.ownsRow X0.heap.size et n lv' (K.length + 1) (xs ++ cs)) (hl : lv'.ownBlock = lv.ownBlock ∨ lv'.ownBlock = some W4.heap.size) :
  GrowAt Rep X0 (Z.setCell ⟨r, f, none⟩ lv') r f cells bt et n lv' (K ++ [x]) := by
 have z0 := h.low.size
 have z3 := h3.size
 have z4 := h4.size
 have zz := hg.size
 have hr := h.rlt
 have hob : ∀ b, lv.ownBlock = some b → X0.heap.size ≤ b ∧ b < X.heap.size := fun b hb => ho.lt b hb
 have key : ∀ b, b < X0.heap.size → Z.heap[b]? = X.heap[b]? := fun b hb => by
  rw [hg.block b (by omega) (fun e => by have := hob b e.symm; omega), h4.block b (by omega), h3.block b (by omega)]
 have hfar : ∀ b, b ≠ r → (Z.setCell ⟨r, f, none⟩ lv').heap[b]? = Z.heap[b]? := fun b hb => Below.heap_setCell _ _ _ _ hb
 have hsz : (Z.setCell ⟨r, f, none⟩ lv').heap.size = Z.heap.size := by simp [World.setCell]
 have hown' : ∀ b, lv'.ownBlock = some b → X0.heap.size ≤ b := fun b hb => (hz.lt b hb).1
 refine ⟨?_, hr, ?_, ?_⟩
 ·have hbZ : But r X0 Z := ⟨hg.os.trans (h4.os.trans (h3.os.trans h.low.os)), hg.tape.trans (h4.tape.trans (h3.tape.trans h.low.tape)), hg.output.trans (h4.output.trans (h3.output.trans h.low.output)), by omega, fun b hb hn => (key b hb).trans (h.low.block b hb hn)⟩
  exact hbZ.set f lv'
 ·have := blk_setCell ((key r hr).trans h.box) f lv'
  rw [this]
  simp [Array.setIfInBounds_setIfInBounds]
 ·refine ⟨_, own_same (w := Z) (by rw [List.length_append]; exact hz) (fun b hb => hfar b (by have := hown' b hb; omega)), ?_⟩
  have := app_keep (Rep := Rep) (Reps := fun A w l xs => XSs (Rep A w) l xs) (fun hA hk l xs h => XSs.mono (impR hA hk) h) impR (fun h1 h2 => XSs.snoc h1 h2) ho hx h3 hi h4 (by omega) hg hl
  exact XSs.mono (impR (fun b hb => ⟨hb.1, by rw [hsz]; exact hb.2.1, hb.2.2⟩) (fun b hb => hfar b (by have := hb.1; omega))) this
theorem GrowAt.xrow (impR : ∀ {A C : Nat → Prop} {w w' : World}, (∀ b, A b → C b) → KeepA A w w' → ∀ l xs, Rep A w l xs → Rep C w' l xs)
  {X0 X : World} {r f : Nat} {cells : Array Value} {bt et : TypeId} {n : Nat} {lv : Value} {K : List α} (h : GrowAt Rep X0 X r f cells bt et n lv K) : ∃ xs, XRow (Nw X0 X) X lv K.length xs ∧ XSs (Rep (Nw X0 X) X) K xs := by
 obtain ⟨xs, ho, hx⟩ := h.row
 exact ⟨xs, xrow_own ho, hx.mono (impR (fun b hb => ⟨hb.1, hb.2.1⟩) (fun _ _ => rfl))⟩
theorem GrowAt.blk {X0 X : World} {r f : Nat} {cells : Array Value} {bt et : TypeId} {n : Nat} {lv : Value} {K : List α} (h : GrowAt Rep X0 X r f cells bt et n lv K) {b : Nat} (hb : b < X0.heap.size) (hn : b ≠ r) : X.heap[b]? = X0.heap[b]? := h.low.block b hb hn
end
theorem xb_of {A : Nat → Prop} {w : World} {b : Pb} {pa ia ta wa : Option Addr} {pc ic tc wc : Nat} (h1 : XRow A w (.slice pa b.params.length pc) b.params.length (intsG b.params)) (h2 : XIs A w (.slice ia b.ins.length ic) b.ins) (h3 : XRow A w (.slice ta b.tos.length tc) b.tos.length (intsG b.tos)) (h4 : XWs A w (.slice wa b.wi.length wc) b.wi) :
  XB A w b [.slice pa b.params.length pc, .slice ia b.ins.length ic, .string ⟨b.fin.toArray⟩, .int .i64 b.v, .slice ta b.tos.length tc, .slice wa b.wi.length wc] :=
 ⟨pa, pc, ia, ic, ta, tc, wa, wc, rfl, h1, h2, h3, h4⟩
end Go.Proofs.YtmckajgacfjnhaaGreatDoor
namespace Go.Proofs.YtmckajgacfjnhaaGreatDoor
open Go.RowKit
structure OkI (x : Pi) : Prop where
 kind : x.kind.length ≤ 9223372036854775807
 args : x.args.length ≤ 9223372036854775807
 name : x.name.length ≤ 9223372036854775807
structure OkB (b : Pb) : Prop where
 params : b.params.length ≤ 9223372036854775807
 insl : b.ins.length ≤ 9223372036854775807
 fin : b.fin.length ≤ 9223372036854775807
 tos : b.tos.length ≤ 9223372036854775807
 wil : b.wi.length ≤ 9223372036854775807
 ins : ∀ x ∈ b.ins, OkI x
 wi : ∀ l ∈ b.wi, l.length ≤ 9223372036854775807
structure FewI (x : Pi) : Prop where
 kind : x.kind.length ≤ 20
 args : x.args.length ≤ 8
 name : x.name.length ≤ 20
structure FewB (b : Pb) : Prop where
 params : b.params.length ≤ 10
 insl : b.ins.length ≤ 20
 fin : b.fin.length ≤ 20
 tos : b.tos.length ≤ 4
 wil : b.wi.length ≤ 4
 ins : ∀ x ∈ b.ins, FewI x
 wi : ∀ l ∈ b.wi, l.length ≤ 12
set_option maxRecDepth 100000 in
set_option maxHeartbeats 8000000 in
theorem largeC_any {w : World} (nm : List UInt8) (P V : Int) (L : List Pb) (hL : L.length ≤ 9223372036854775807) (hO : ∀ b ∈ L, OkB b) (ba : Option Addr) (bc : Nat) (hC : XCo (InH w) w (.slice ba L.length bc) L) :
  Calls Tryz.prog 5 #[.agg #[.string ⟨nm.toArray⟩, .int .i64 P, .int .i64 V, .slice ba L.length bc]] w fun e w' => ∃ r : Nat, e = .returned (.int .i64 r) ∧ (r = 1 ∨ (r = 0 ∧ L.length ≤ 1001 ∧ ∀ b ∈ L, FewB b)) ∧ Below w.heap.size w w' := by
 have hL' : (L.length : Int) ≤ 9223372036854775807 := by omega
 have HC := hidX hC
 have HO := hidX hO
 obtain ⟨W0, hW0⟩ : ∃ W0, W0 = w.alloc (.cells #[.string ⟨nm.toArray⟩, .int .i64 P, .int .i64 V, .slice ba L.length bc] 24) := ⟨_, rfl⟩
 have hb0 : Below w.heap.size w W0 := by rw [hW0]; (repeat (first | exact Below.refl _ _ | assumption | refine Below.drew ?_ | refine bT ?_ _ | refine bS ?_ _ | refine bA ?_ _))
 have hx0 : W0.heap[w.heap.size]? = some (.cells #[.string ⟨nm.toArray⟩, .int .i64 P, .int .i64 V, .slice ba L.length bc] 24 (0, 0)) := by rw [hW0]; exact heap_alloc_new _ _
 have HX := hidX (fun (Y : World) (hY : Below W0.heap.size W0 Y) => (show Y.cell? ⟨w.heap.size, 3, none⟩ = some (.slice ba L.length bc) from cell_of_blk ((hY.block _ (heap_lt hx0)).trans hx0) 3))
 have HUP := hidX (fun (Y : World) (hY : Below W0.heap.size W0 Y) => bl_trans hb0 hb0.size hY)
 have d3 := HX.out W0 (Below.refl _ _)
 clear hC hO hb0 hx0
 go_enter Tryz.func5, Tryz.ntmps5
 go_upto_region 1 with fail
 rw [← hW0]
 clear hW0
 go_cut [16] (fun v wc => wc = W0 ∧ v = .bool (decide (20 < L.length) && decide (L.length ≠ 1001)))
 case first =>
  by_cases c1 : 20 < L.length
  ·have c1' : (20 : Int) < (L.length : Int) := by omega
   by_cases c2 : L.length = 1001
   ·have c2' : ((L.length : Int) != 1001) = false := by rw [c2]; rfl
    have HC2 := hidX c2
    clear c2
    go_wp2_with fail
    go_meet
    case rel => exact ⟨rfl, by rw [HC2.out]; rfl⟩
   ·have c2' : ((L.length : Int) != 1001) = true := by rw [bne, beq_eq_false_iff_ne.2 (by omega)]; rfl
    have HC2 := hidX c2
    clear c2
    go_wp2_with fail
    go_meet
    case rel => exact ⟨rfl, by rw [decide_eq_true c1, decide_eq_true HC2.out]; rfl⟩
  ·have c1' : ¬ (20 : Int) < (L.length : Int) := by omega
   go_wp2_with fail
   go_meet
   case rel => exact ⟨rfl, by rw [decide_eq_false c1]; rfl⟩
 case rest =>
 obtain ⟨hwc, rfl⟩ := hcut
 replace hwc := hwc.symm
 subst hwc
 by_cases hc : (decide (20 < L.length) && decide (L.length ≠ 1001)) = true
 ·rw [hc]
  have HF := hidX (HUP.out W0 (Below.refl _ _))
  clear hc
  go_wp2
  go_ret
  exact ⟨1, rfl, Or.inl rfl, HF.out⟩
 have hc' : (decide (20 < L.length) && decide (L.length ≠ 1001)) = false := by simpa using hc
 rw [hc']
 have hl2 : L.length ≤ 1001 := by
  rw [Bool.and_eq_false_iff] at hc'
  rcases hc' with h | h
  ·have := of_decide_eq_false h; omega
  ·have := of_decide_eq_false h; omega
 have hl2' : (L.length : Int) ≤ 1001 := by omega
 clear hc hc' hL hL'
 go_wp2_with fail
 clear d3
 go_loopw [3, 4, 5, 6] (fun i _ _ _ wr => ∃ q : Nat, q ≤ L.length ∧ i = .int .i64 (q : Int) ∧ Hid (Below W0.heap.size W0 wr) ∧ Hid (∀ j (hj : j < L.length), j < q → FewB L[j])) (fun i _ _ _ _ => L.length - (intOf i).toNat)
 case atStart => exact ⟨0, by omega, rfl, Below.refl _ _, fun j _ hj => absurd hj (by omega)⟩
 case round =>
  obtain ⟨q, hq, rfl, HB, HA⟩ := hrel
  have d3 := HX.out wr HB.out
  by_cases hlt : q < L.length
  ·have hlt' : (q : Int) < (L.length : Int) := by omega
   obtain ⟨g, off, pa, pc, ia, ic, ta, tc, wa, wq, eb, hgb, rP, rI, rT, rW, k0, k1, k2, k3, k4, k5⟩ := HC.out.blk hlt
   subst eb
   have hup := HUP.out wr HB.out
   replace k0 := (hup.cell (p := ⟨g, _, none⟩) hgb).trans k0
   replace k1 := (hup.cell (p := ⟨g, _, none⟩) hgb).trans k1
   replace k2 := (hup.cell (p := ⟨g, _, none⟩) hgb).trans k2
   replace k3 := (hup.cell (p := ⟨g, _, none⟩) hgb).trans k3
   replace k4 := (hup.cell (p := ⟨g, _, none⟩) hgb).trans k4
   replace k5 := (hup.cell (p := ⟨g, _, none⟩) hgb).trans k5
   have HOB := hidX (HO.out _ (List.getElem_mem hlt))
   have HSTP := hidX (show FewB L[q] → ∀ j (hj : j < L.length), j < q + 1 → FewB L[j] from fun h j hj hjq => by
    by_cases e : j = q
    ·subst e; exact h
    ·exact HA.out j hj (by omega))
   generalize L[q] = b at *
   have HRI := hidX (fun (Y : World) (hY : Below w.heap.size w Y) => rI.imp (inH_up hY) (keepH hY))
   have HRW := hidX (fun (Y : World) (hY : Below w.heap.size w Y) => rW.imp (inH_up hY) (keepH hY))
   obtain ⟨Wb, hWb⟩ : ∃ Wb, Wb = wr.alloc (.cells #[.slice pa b.params.length pc, .slice ia b.ins.length ic, .string ⟨b.fin.toArray⟩, .int .i64 b.v, .slice ta b.tos.length tc, .slice wa b.wi.length wq] 60) := ⟨_, rfl⟩
   have hwb : Below wr.heap.size wr Wb := by rw [hWb]; (repeat (first | exact Below.refl _ _ | assumption | refine Below.drew ?_ | refine bT ?_ _ | refine bS ?_ _ | refine bA ?_ _))
   have hxb : Wb.heap[wr.heap.size]? = some (.cells #[.slice pa b.params.length pc, .slice ia b.ins.length ic, .string ⟨b.fin.toArray⟩, .int .i64 b.v, .slice ta b.tos.length tc, .slice wa b.wi.length wq] 60 (0, 0)) := by rw [hWb]; exact heap_alloc_new _ _
   have HBB := hidX (bl_trans HB.out HB.out.size hwb)
   have HFF := hidX (HUP.out Wb HBB.out)
   have f0 : Wb.cell? ⟨wr.heap.size, 0, none⟩ = some (.slice pa b.params.length pc) := cell_of_blk hxb 0
   have f1 : Wb.cell? ⟨wr.heap.size, 1, none⟩ = some (.slice ia b.ins.length ic) := cell_of_blk hxb 1
   have f2 : Wb.cell? ⟨wr.heap.size, 2, none⟩ = some (.string ⟨b.fin.toArray⟩) := cell_of_blk hxb 2
   have f4 : Wb.cell? ⟨wr.heap.size, 4, none⟩ = some (.slice ta b.tos.length tc) := cell_of_blk hxb 4
   have f5 : Wb.cell? ⟨wr.heap.size, 5, none⟩ = some (.slice wa b.wi.length wq) := cell_of_blk hxb 5
   have m0 : (b.params.length : Int) ≤ 9223372036854775807 := by have := HOB.out.params; omega
   have m1 : (b.ins.length : Int) ≤ 9223372036854775807 := by have := HOB.out.insl; omega
   have m2 : (b.fin.length : Int) ≤ 9223372036854775807 := by have := HOB.out.fin; omega
   have m4 : (b.tos.length : Int) ≤ 9223372036854775807 := by have := HOB.out.tos; omega
   have m5 : (b.wi.length : Int) ≤ 9223372036854775807 := by have := HOB.out.wil; omega
   clear rP rI rT rW hup hwb hxb
   go_upto_region 7 with fail
   rw [← hWb]
   clear hWb k0 k1 k2 k3 k4 k5 d3
   by_cases h1 : (20 : Int) < (b.ins.length : Int)
   ·go_wp2
    go_ret
    exact ⟨1, rfl, Or.inl rfl, HFF.out⟩
   by_cases h2 : (10 : Int) < (b.params.length : Int)
   ·go_wp2
    go_ret
    exact ⟨1, rfl, Or.inl rfl, HFF.out⟩
   by_cases h3 : (4 : Int) < (b.tos.length : Int)
   ·go_wp2
    go_ret
    exact ⟨1, rfl, Or.inl rfl, HFF.out⟩
   by_cases h4 : (4 : Int) < (b.wi.length : Int)
   ·go_wp2
    go_ret
    exact ⟨1, rfl, Or.inl rfl, HFF.out⟩
   by_cases h5 : (20 : Int) < (b.fin.length : Int)
   ·go_wp2
    go_ret
    exact ⟨1, rfl, Or.inl rfl, HFF.out⟩
   obtain ⟨Wo, hWo⟩ : ∃ Wo, Wo = wr := ⟨_, rfl⟩
   subst hWo
   go_wp2_with fail
   go_loopw [5] (fun i wr => ∃ k : Nat, k ≤ b.ins.length ∧ i = .int .i64 (k : Int) ∧ wr = Wb ∧ Hid (∀ j (hj : j < b.ins.length), j < k → FewI b.ins[j])) (fun i _ => b.ins.length - (intOf i).toNat)
   case atStart => exact ⟨0, by omega, rfl, rfl, fun j _ hj => absurd hj (by omega)⟩
   case round =>
    obtain ⟨k, hk, rfl, hwr, HI⟩ := hrel
    subst hwr
    by_cases hkl : k < b.ins.length
    ·have hkl' : (k : Int) < (b.ins.length : Int) := by omega
     obtain ⟨gi, offi, ad1, cap1, ei, hgi, -, k0, k1, k2, k3, k4⟩ := (HRI.out wr HFF.out).ins hkl
     subst ei
     have HOI := HOB.out.ins _ (List.getElem_mem hkl)
     have n0 : (b.ins[k].kind.length : Int) ≤ 9223372036854775807 := by have := HOI.kind; omega
     have n1 : (b.ins[k].args.length : Int) ≤ 9223372036854775807 := by have := HOI.args; omega
     have n2 : (b.ins[k].name.length : Int) ≤ 9223372036854775807 := by have := HOI.name; omega
     have HSI := hidX (show FewI b.ins[k] → ∀ j (hj : j < b.ins.length), j < k + 1 → FewI b.ins[j] from fun h j hj hjq => by
      by_cases e : j = k
      ·subst e; exact h
      ·exact HI.out j hj (by omega))
     generalize b.ins[k] = x at *
     clear HOI
     by_cases g1 : (8 : Int) < (x.args.length : Int)
     ·go_wp2
      go_ret
      exact ⟨1, rfl, Or.inl rfl, HFF.out⟩
     by_cases g2 : (20 : Int) < (x.kind.length : Int)
     ·go_wp2
      go_ret
      exact ⟨1, rfl, Or.inl rfl, HFF.out⟩
     by_cases g3 : (20 : Int) < (x.name.length : Int)
     ·go_wp2
      go_ret
      exact ⟨1, rfl, Or.inl rfl, HFF.out⟩
     have HS2 := hidX (HSI.out ⟨by omega, by omega, by omega⟩)
     go_wp2
     go_roundw
     case rel => exact ⟨k + 1, by omega, by go_num, trivial, HS2.out⟩
     case measure => simp [intOf]; omega
    ·have hkn : k = b.ins.length := by omega
     subst hkn
     go_wp2_with fail
     obtain ⟨Wp, hWp⟩ : ∃ Wp, Wp = wr := ⟨_, rfl⟩
     subst hWp
     go_loopw [6] (fun i wr => ∃ k : Nat, k ≤ b.wi.length ∧ i = .int .i64 (k : Int) ∧ wr = Wp ∧ Hid (∀ j (hj : j < b.wi.length), j < k → b.wi[j].length ≤ 12)) (fun i _ => b.wi.length - (intOf i).toNat)
     case atStart => exact ⟨0, by omega, rfl, rfl, fun j _ hj => absurd hj (by omega)⟩
     case round =>
      obtain ⟨k, hk, rfl, hwr, HJ⟩ := hrel
      subst hwr
      by_cases hkl : k < b.wi.length
      ·have hkl' : (k : Int) < (b.wi.length : Int) := by omega
       obtain ⟨gi, offi, ad1, cap1, ei, hgi, -, k0⟩ := (HRW.out wr HFF.out).row hkl
       subst ei
       have n0 : (b.wi[k].length : Int) ≤ 9223372036854775807 := by have := HOB.out.wi _ (List.getElem_mem hkl); omega
       have HSJ := hidX (show b.wi[k].length ≤ 12 → ∀ j (hj : j < b.wi.length), j < k + 1 → b.wi[j].length ≤ 12 from fun h j hj hjq => by
        by_cases e : j = k
        ·subst e; exact h
        ·exact HJ.out j hj (by omega))
       generalize b.wi[k].length = x at *
       by_cases g1 : (12 : Int) < (x : Int)
       ·go_wp2
        go_ret
        exact ⟨1, rfl, Or.inl rfl, HFF.out⟩
       have HS2 := hidX (HSJ.out (by omega))
       go_wp2
       go_roundw
       case rel => exact ⟨k + 1, by omega, by go_num, trivial, HS2.out⟩
       case measure => simp [intOf]; omega
      ·have hkn : k = b.wi.length := by omega
       subst hkn
       have HFB := hidX (HSTP.out ⟨by omega, by omega, by omega, by omega, by omega, fun x hx => by
        obtain ⟨j, hj, rfl⟩ := List.getElem_of_mem hx
        exact HI.out j hj hj, fun x hx => by
        obtain ⟨j, hj, rfl⟩ := List.getElem_of_mem hx
        exact HJ.out j hj hj⟩)
       go_wp2
       go_roundw
       case rel => exact ⟨q + 1, by omega, by go_num, HBB.out, HFB.out⟩
       case measure => simp [intOf]; omega
  ·have hqn : q = L.length := by omega
   subst hqn
   have HF := hidX (HUP.out wr HB.out)
   have HFW := hidX (show ∀ b ∈ L, FewB b from fun b hb => by
    obtain ⟨j, hj, rfl⟩ := List.getElem_of_mem hb
    exact HA.out j hj hj)
   go_wp2
   go_ret
   exact ⟨0, rfl, Or.inr ⟨rfl, hl2, HFW.out⟩, HF.out⟩
end Go.Proofs.YtmckajgacfjnhaaGreatDoor
namespace Go.Proofs.YtmckajgacfjnhaaGreatDoor
open Go.RowKit
theorem pi_info : (Tryz.prog.info? 52).map (fun i => (i.zero, i.size, i.bytes)) = some (some (.agg #[.string ⟨#[]⟩, .int .i64 0, .slice none 0 0, .int .i64 0, .string ⟨#[]⟩]), 5, 72) := by kernel_rfl
theorem pb_info : (Tryz.prog.info? 56).map (fun i => (i.zero, i.size, i.bytes)) = some (some (.agg #[.slice none 0 0, .slice none 0 0, .string ⟨#[]⟩, .int .i64 0, .slice none 0 0, .slice none 0 0]), 6, 120) := by kernel_rfl
theorem pw_info : (Tryz.prog.info? 25).map (fun i => (i.zero, i.size, i.bytes)) = some (some (.slice none 0 0), 1, 24) := by kernel_rfl
theorem pi_one (n : Pi) (a : Option Addr) (l c : Nat) : ∀ u ∈ ([.string ⟨n.kind.toArray⟩, .int .i64 n.d, .slice a l c, .int .i64 n.num, .string ⟨n.name.toArray⟩] : List Value), u.oneCell' = true := by
 intro u hu
 simp only [List.mem_cons, List.not_mem_nil, or_false] at hu
 rcases hu with rfl | rfl | rfl | rfl | rfl <;> rfl
theorem pb_one (b : Pb) (a1 a2 a3 a4 : Option Addr) (l1 c1 l2 c2 l3 c3 l4 c4 : Nat) : ∀ u ∈ ([.slice a1 l1 c1, .slice a2 l2 c2, .string ⟨b.fin.toArray⟩, .int .i64 b.v, .slice a3 l3 c3, .slice a4 l4 c4] : List Value), u.oneCell' = true := by
 intro u hu
 simp only [List.mem_cons, List.not_mem_nil, or_false] at hu
 rcases hu with rfl | rfl | rfl | rfl | rfl | rfl <;> rfl
theorem reg_cut5 {P : Program} {c : Code} {Q : Exit → Act → World → Prop} {a : Act} {w : World} (F : Nat → Option Addr → Nat → Option Addr → Nat → Act) (R : Nat → Option Addr → Nat → Option Addr → Nat → World → Prop) (h : c.wp P (Exit.then (fun a' w' => ∃ n a1 c1 a2 c2, a' = F n a1 c1 a2 c2 ∧ R n a1 c1 a2 c2 w') (fun _ _ _ => False)) a w)
  (k : ∀ n a1 c1 a2 c2 w', R n a1 c1 a2 c2 w' → Q .normal (F n a1 c1 a2 c2) w') : c.wp P Q a w :=
 Code.wp_mono (fun e a w g => by
  cases e with
  | normal => obtain ⟨n, a1, c1, a2, c2, rfl, g⟩ := g; exact k _ _ _ _ _ _ g
  | _ => exact g.elim) h
theorem wpAnyU_two {P : Program} {md : Region.Mode} {ops : Array Oper} {Q : Exit → Act → World → Prop} {S : World → Prop} {k : Nat} {i j : Nat} {oi oj : Oper} {fuel : Nat} {listed : Array Bool} {a : Act} {w : World} (hr : Region.ready md ops listed = [i, j]) (hi : ops[i]? = some oi) (hj : ops[j]? = some oj)
  (h1 : ∀ K' : Act → World → Prop, Shut (∀ a w, (i ≠ k → S w) → ((i ≠ k → S w) → wpAnyU P md ops Q S k fuel (listed.setIfInBounds i true) a w) → K' a w) → if Region.wanted oi (yielded ops a.tmps) = true then Oper.wp P oi a w K' Q else K' (a.put oi.dst undef) w)
  (h2 : ∀ K' : Act → World → Prop, Shut (∀ a w, (j ≠ k → S w) → ((j ≠ k → S w) → wpAnyU P md ops Q S k fuel (listed.setIfInBounds j true) a w) → K' a w) → if Region.wanted oj (yielded ops a.tmps) = true then Oper.wp P oj a w K' Q else K' (a.put oj.dst undef) w) :
  wpAnyU P md ops Q S k (fuel + 1) listed a w := by
 refine ⟨fun h0 => absurd (hr ▸ h0) (by simp), fun l hl => ?_⟩
 rw [hr] at hl
 rcases List.mem_cons.1 hl with rfl | hl
 ·exact wpOp_step hi (fun K' hK => h1 K' (fun a w hS hW => hK a w ⟨hS, hW hS⟩))
 ·have := List.mem_singleton.1 hl
  subst this
  exact wpOp_step hj (fun K' hK => h2 K' (fun a w hS hW => hK a w ⟨hS, hW hS⟩))
theorem thr_blksP (w : World) (a b c : Obj) : (((w.alloc a).alloc b).alloc c).heap[w.heap.size]? = some a ∧ (((w.alloc a).alloc b).alloc c).heap[w.heap.size + 1]? = some b ∧ (((w.alloc a).alloc b).alloc c).heap[w.heap.size + 1 + 1]? = some c := by
 refine ⟨?_, ?_, ?_⟩
 ·rw [Below.heap_alloc _ _ _ (by simp; omega), Below.heap_alloc _ _ _ (by simp), heap_alloc_new]
 ·rw [Below.heap_alloc _ _ _ (by simp)]
  have := heap_alloc_new (w.alloc a) b
  rwa [show (w.alloc a).heap.size = w.heap.size + 1 by simp] at this
 ·have := heap_alloc_new ((w.alloc a).alloc b) c
  rwa [show ((w.alloc a).alloc b).heap.size = w.heap.size + 1 + 1 by simp] at this
abbrev bxV (b : Pb) (a1 : Option Addr) (c1 : Nat) (a2 : Option Addr) (c2 : Nat) : Array Value := #[.slice a1 b.params.length c1, .slice none 0 0, .string ⟨b.fin.toArray⟩, .int .i64 b.v, .slice a2 b.tos.length c2, .slice none 0 0]
structure BoxAt (X W : World) (b : Pb) (n : Nat) (a1 : Option Addr) (c1 : Nat) (a2 : Option Addr) (c2 : Nat) (cs : Array Value) : Prop where
 low : Below X.heap.size X W
 ge : X.heap.size ≤ n
 box : W.heap[n]? = some (.cells cs 56 (0, 0))
 par : XRow (fun k => Nw X W k ∧ k ≠ n) W (.slice a1 b.params.length c1) b.params.length (intsG b.params)
 tos : XRow (fun k => Nw X W k ∧ k ≠ n) W (.slice a2 b.tos.length c2) b.tos.length (intsG b.tos)
theorem BoxAt.set {X W : World} {b : Pb} {n c1 c2 : Nat} {a1 a2 : Option Addr} {cs : Array Value} (h : BoxAt X W b n a1 c1 a2 c2 cs) (i : Nat) (u : Value) : BoxAt X (W.setCell ⟨n, i, none⟩ u) b n a1 c1 a2 c2 (cs.setIfInBounds i u) := by
 have hsz : (W.setCell ⟨n, i, none⟩ u).heap.size = W.heap.size := by simp [World.setCell]
 have hk : KeepA (fun k => Nw X W k ∧ k ≠ n) W (W.setCell ⟨n, i, none⟩ u) := fun k hk => Below.heap_setCell _ _ _ _ hk.2
 exact ⟨h.low.setCell h.ge u, h.ge, blk_setCell h.box i u, h.par.imp (fun k hk => ⟨⟨hk.1.1, by rw [hsz]; exact hk.1.2⟩, hk.2⟩) hk, h.tos.imp (fun k hk => ⟨⟨hk.1.1, by rw [hsz]; exact hk.1.2⟩, hk.2⟩) hk⟩
abbrev bx0 : Array Value := #[.slice none 0 0, .slice none 0 0, .string ⟨#[]⟩, .int .i64 0, .slice none 0 0, .slice none 0 0]
theorem box_a {X W1 W2 : World} {b : Pb} {a1 a2 : Option Addr} {c1 c2 : Nat} (cs : Array Value) (o1 : W1.ownsRow X.heap.size 3 1 (.slice a1 b.params.length c1) b.params.length (intsG b.params)) (h1 : Below X.heap.size X W1) (o2 : W2.ownsRow W1.heap.size 3 1 (.slice a2 b.tos.length c2) b.tos.length (intsG b.tos)) (h2 : Below W1.heap.size W1 W2) :
  BoxAt X (W2.alloc (.cells cs 56)) b W2.heap.size a1 c1 a2 c2 cs := by
 have z1 := h1.size
 have z2 := h2.size
 have h12 : Below X.heap.size X W2 := bl_trans h1 h1.size h2
 refine ⟨bl_trans h12 h12.size (box_blk _ _ _), by omega, heap_alloc_new _ _, (xrow_own o1).imp (fun k hk => ⟨⟨hk.1, by have := hk.2; simp; omega⟩, by have := hk.2; omega⟩) (fun k hk => ?_), (xrow_own o2).imp (fun k hk => ⟨⟨by have := hk.1; omega, by have := hk.2; simp; omega⟩, by have := hk.2; omega⟩) (fun k hk => ?_)⟩
 ·rw [Below.heap_alloc _ _ _ (by have := hk.2; omega), h2.block k hk.2]
 ·rw [Below.heap_alloc _ _ _ hk.2]
theorem box_b {X W1 W2 : World} {b : Pb} {a1 a2 : Option Addr} {c1 c2 : Nat} (o1 : W1.ownsRow X.heap.size 3 1 (.slice a1 b.params.length c1) b.params.length (intsG b.params)) (h1 : Below X.heap.size X W1) (o2 : W2.ownsRow (W1.alloc (.cells bx0 56)).heap.size 3 1 (.slice a2 b.tos.length c2) b.tos.length (intsG b.tos)) (h2 : Below (W1.alloc (.cells bx0 56)).heap.size (W1.alloc (.cells bx0 56)) W2) :
  BoxAt X W2 b W1.heap.size a1 c1 a2 c2 bx0 := by
 have z1 := h1.size
 have z2 := h2.size
 have hs : (W1.alloc (.cells bx0 56)).heap.size = W1.heap.size + 1 := by simp
 have h3 := bl_trans h1 h1.size (box_blk W1 bx0 56)
 refine ⟨bl_trans h3 h3.size h2, by omega, (h2.block _ (by omega)).trans (heap_alloc_new _ _), (xrow_own o1).imp (fun k hk => ⟨⟨hk.1, by have := hk.2; omega⟩, by have := hk.2; omega⟩) (fun k hk => ?_), (xrow_own o2).imp (fun k hk => ⟨⟨by have := hk.1; omega, hk.2⟩, by have := hk.1; omega⟩) (fun k hk => rfl)⟩
 rw [h2.block k (by have := hk.2; omega), Below.heap_alloc _ _ _ hk.2]
theorem box_c {X W1 W2 : World} {b : Pb} {a1 a2 : Option Addr} {c1 c2 : Nat} (o1 : W1.ownsRow (X.alloc (.cells bx0 56)).heap.size 3 1 (.slice a1 b.params.length c1) b.params.length (intsG b.params)) (h1 : Below (X.alloc (.cells bx0 56)).heap.size (X.alloc (.cells bx0 56)) W1) (o2 : W2.ownsRow W1.heap.size 3 1 (.slice a2 b.tos.length c2) b.tos.length (intsG b.tos)) (h2 : Below W1.heap.size W1 W2) :
  BoxAt X W2 b X.heap.size a1 c1 a2 c2 bx0 := by
 have z1 := h1.size
 have z2 := h2.size
 have hs : (X.alloc (.cells bx0 56)).heap.size = X.heap.size + 1 := by simp
 have h12 := bl_trans h1 h1.size h2
 have h3 := bl_trans (box_blk X bx0 56) (by omega) h12
 refine ⟨h3, by omega, (h12.block _ (by omega)).trans (heap_alloc_new _ _), (xrow_own o1).imp (fun k hk => ⟨⟨by have := hk.1; omega, by have := hk.2; omega⟩, by have := hk.1; omega⟩) (fun k hk => h2.block k hk.2), (xrow_own o2).imp (fun k hk => ⟨⟨by have := hk.1; omega, hk.2⟩, by have := hk.1; omega⟩) (fun k hk => rfl)⟩
theorem BoxAt.undrew {X W : World} {b : Pb} {n c1 c2 : Nat} {a1 a2 : Option Addr} {cs : Array Value} (h : BoxAt X.drew W b n a1 c1 a2 c2 cs) : BoxAt X W b n a1 c1 a2 c2 cs :=
 ⟨bl_trans (Below.drew (Below.refl _ _)) (Nat.le_refl _) h.low, h.ge, h.box, h.par, h.tos⟩
theorem BoxAt.fill {X W : World} {b : Pb} {n c1 c2 : Nat} {a1 a2 : Option Addr} (h : BoxAt X W b n a1 c1 a2 c2 bx0) : BoxAt X ((((((W.setCell ⟨n, 0, none⟩ (.slice a1 b.params.length c1)).setCell ⟨n, 1, none⟩ (.slice none 0 0)).setCell ⟨n, 2, none⟩ (.string ⟨b.fin.toArray⟩)).setCell ⟨n, 3, none⟩ (.int .i64 b.v)).setCell ⟨n, 4, none⟩ (.slice a2 b.tos.length c2)).setCell ⟨n, 5, none⟩ (.slice none 0 0)) b n a1 c1 a2 c2 (bxV b a1 c1 a2 c2) := by
 have := ((((((h.set 0 (.slice a1 b.params.length c1)).set 1 (.slice none 0 0)).set 2 (.string ⟨b.fin.toArray⟩)).set 3 (.int .i64 b.v)).set 4 (.slice a2 b.tos.length c2)).set 5 (.slice none 0 0))
 simpa using this
structure AsC (w W0 X : World) (cs : Array Value) (nv lv : Value) (K : List Pb) : Prop where
 low : Below w.heap.size w X
 src : X.heap[w.heap.size]? = some (.cells (cs.setIfInBounds 3 nv) 24 (0, 0))
 grow : GrowAt XB W0 X (w.heap.size + 1 + 1) 3 cs 31 56 6 lv K
end Go.Proofs.YtmckajgacfjnhaaGreatDoor
