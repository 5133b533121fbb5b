/- Our own: texts joined: AlGrow, AlLarge, AlBox. -/
import Derived.Test.YtimccbilkjjakaaDoorZAppAll
import Derived.Test.YtimccbilkjjakaaDoorZAlMR
import Derived.Test.YtimccbilkjjakaaDoorZBase
import Derived.Deep.DeepCutAuto
import Derived.Test.YtimccbilkjjakaaDoorZTools
import Derived.Test.YtimccbilkjjakaaDoorZRets
namespace Go.Proofs.YtimccbilkjjakaaDoor
open Go.RowKit
structure GrowAt {α : Type} (Rep : (Nat → Prop) → World → α → List Value → Prop) (X0 X : World) (r f : Nat) (cells : Array Value) (bt et : TypeId) (n : Nat) (lv : Value) (K : List α) : Prop where
 low : But r X0 X
 rlt : r < X0.heap.size
 box : X.heap[r]? = some (.cells (cells.setIfInBounds f lv) bt (0, 0))
 row : ∃ xs, X.ownsRow X0.heap.size et n lv K.length xs ∧ YSs (Rep (KA X0.heap.size X lv) X) K xs
section
variable {α : Type} {Rep : (Nat → Prop) → World → α → List Value → Prop}
theorem GrowAt.start {X0 : World} {r f : Nat} {cells : Array Value} {bt et : TypeId} {n : Nat} (h : X0.heap[r]? = some (.cells cells bt (0, 0))) (hf : cells.setIfInBounds f (.slice none 0 0) = cells) : GrowAt Rep X0 X0 r f cells bt et n (.slice none 0 0) [] :=
 ⟨But.refl _ _, heap_lt h, by rw [hf]; exact h, [], World.ownsRow_nil _ _ _ _, rfl⟩
theorem GrowAt.push (impR : ∀ {A C : Nat → Prop} {w w' : World}, (∀ b, A b → C b) → KeepA A w w' → ∀ l xs, Rep A w l xs → Rep C w' l xs)
  {X0 X W3 Z : World} {r f : Nat} {cells : Array Value} {bt et : TypeId} {n : Nat} {lv lv' : Value} {K : List α} {x : α} {xs cs : List Value} {W4 : World} (h : GrowAt Rep X0 X r f cells bt et n lv K) (ho : X.ownsRow X0.heap.size et n lv K.length xs) (hx : YSs (Rep (KA X0.heap.size X lv) X) K xs)
  (h3 : Below X.heap.size X W3) (hi : Rep (Nw X W3) W3 x cs) (h4 : Below W3.heap.size W3 W4) (hg : W4.grownBy Z lv.ownBlock)
  (hz : Z.ownsRow X0.heap.size et n lv' (K.length + 1) (xs ++ cs)) (hl : lv'.ownBlock = lv.ownBlock ∨ lv'.ownBlock = some W4.heap.size) :
  GrowAt Rep X0 (Z.setCell ⟨r, f, none⟩ lv') r f cells bt et n lv' (K ++ [x]) := by
 have z0 := h.low.size
 have z3 := h3.size
 have z4 := h4.size
 have zz := hg.size
 have hr := h.rlt
 have hob : ∀ b, lv.ownBlock = some b → X0.heap.size ≤ b ∧ b < X.heap.size := fun b hb => ho.lt b hb
 have key : ∀ b, b < X0.heap.size → Z.heap[b]? = X.heap[b]? := fun b hb => by
  rw [hg.block b (by omega) (fun e => by have := hob b e.symm; omega), h4.block b (by omega), h3.block b (by omega)]
 have hfar : ∀ b, b ≠ r → (Z.setCell ⟨r, f, none⟩ lv').heap[b]? = Z.heap[b]? := fun b hb => Below.heap_setCell _ _ _ _ hb
 have hsz : (Z.setCell ⟨r, f, none⟩ lv').heap.size = Z.heap.size := by simp [World.setCell]
 have hown' : ∀ b, lv'.ownBlock = some b → X0.heap.size ≤ b := fun b hb => (hz.lt b hb).1
 refine ⟨?_, hr, ?_, ?_⟩
 ·have hbZ : But r X0 Z := ⟨hg.os.trans (h4.os.trans (h3.os.trans h.low.os)), hg.tape.trans (h4.tape.trans (h3.tape.trans h.low.tape)), hg.output.trans (h4.output.trans (h3.output.trans h.low.output)), by omega, fun b hb hn => (key b hb).trans (h.low.block b hb hn)⟩
  exact hbZ.set f lv'
 ·have := blk_setCell ((key r hr).trans h.box) f lv'
  rw [this]
  simp [Array.setIfInBounds_setIfInBounds]
 ·refine ⟨_, own_same (w := Z) (by rw [List.length_append]; exact hz) (fun b hb => hfar b (by have := hown' b hb; omega)), ?_⟩
  have := app_keep (Rep := Rep) (Reps := fun A w l xs => YSs (Rep A w) l xs) (fun hA hk l xs h => YSs.mono (impR hA hk) h) impR (fun h1 h2 => YSs.snoc h1 h2) ho hx h3 hi h4 (by omega) hg hl
  exact YSs.mono (impR (fun b hb => ⟨hb.1, by rw [hsz]; exact hb.2.1, hb.2.2⟩) (fun b hb => hfar b (by have := hb.1; omega))) this
theorem GrowAt.xrow (impR : ∀ {A C : Nat → Prop} {w w' : World}, (∀ b, A b → C b) → KeepA A w w' → ∀ l xs, Rep A w l xs → Rep C w' l xs)
  {X0 X : World} {r f : Nat} {cells : Array Value} {bt et : TypeId} {n : Nat} {lv : Value} {K : List α} (h : GrowAt Rep X0 X r f cells bt et n lv K) : ∃ xs, XRow (Nw X0 X) X lv K.length xs ∧ YSs (Rep (Nw X0 X) X) K xs := by
 obtain ⟨xs, ho, hx⟩ := h.row
 exact ⟨xs, xrow_own ho, hx.mono (impR (fun b hb => ⟨hb.1, hb.2.1⟩) (fun _ _ => rfl))⟩
theorem GrowAt.blk {X0 X : World} {r f : Nat} {cells : Array Value} {bt et : TypeId} {n : Nat} {lv : Value} {K : List α} (h : GrowAt Rep X0 X r f cells bt et n lv K) {b : Nat} (hb : b < X0.heap.size) (hn : b ≠ r) : X.heap[b]? = X0.heap[b]? := h.low.block b hb hn
end
end Go.Proofs.YtimccbilkjjakaaDoor
namespace Go.Proofs.YtimccbilkjjakaaDoor
open Go.RowKit
structure OkL (x : Li) : Prop where
 kind : x.kind.length ≤ 9223372036854775807
 name : x.name.length ≤ 9223372036854775807
structure OkLb (b : Lb) : Prop where
 insl : b.ins.length ≤ 9223372036854775807
 fin : b.fin.length ≤ 9223372036854775807
 tos : b.tos.length ≤ 9223372036854775807
 ins : ∀ x ∈ b.ins, OkL x
structure FewL (x : Li) : Prop where
 kind : x.kind.length ≤ 20
 name : x.name.length ≤ 20
structure FewLb (b : Lb) : Prop where
 insl : b.ins.length ≤ 25
 fin : b.fin.length ≤ 20
 tos : b.tos.length ≤ 4
 ins : ∀ x ∈ b.ins, FewL x
set_option maxRecDepth 100000 in
set_option maxHeartbeats 8000000 in
theorem largeL_any {w : World} (nm : List UInt8) (hnm : nm.length ≤ 9223372036854775807) (P S : Int) (L : List Lb) (hL : L.length ≤ 9223372036854775807) (hO : ∀ b ∈ L, OkLb b) (ba : Option Addr) (bc : Nat) (hC : XLC (InH w) w (.slice ba L.length bc) L) :
  Calls Tryd.prog 5 #[.agg #[.string ⟨nm.toArray⟩, .int .i64 P, .int .i64 S, .slice ba L.length bc]] w fun e w' => ∃ r : Nat, e = .returned (.int .i64 r) ∧ (r = 1 ∨ (r = 0 ∧ L.length ≤ 3001 ∧ ∀ b ∈ L, FewLb b)) ∧ Below w.heap.size w w' := by
 have hL' : (L.length : Int) ≤ 9223372036854775807 := by omega
 have hnm' : (nm.length : Int) ≤ 9223372036854775807 := by omega
 have HC := hidX hC
 have HO := hidX hO
 obtain ⟨W0, hW0⟩ : ∃ W0, W0 = w.alloc (.cells #[.string ⟨nm.toArray⟩, .int .i64 P, .int .i64 S, .slice ba L.length bc] 24) := ⟨_, rfl⟩
 have hb0 : Below w.heap.size w W0 := by rw [hW0]; (repeat (first | exact Below.refl _ _ | assumption | refine Below.drew ?_ | refine bT ?_ _ | refine bS ?_ _ | refine bA ?_ _))
 have hx0 : W0.heap[w.heap.size]? = some (.cells #[.string ⟨nm.toArray⟩, .int .i64 P, .int .i64 S, .slice ba L.length bc] 24 (0, 0)) := by rw [hW0]; exact heap_alloc_new _ _
 have HX := hidX (fun (Y : World) (hY : Below W0.heap.size W0 Y) => (show Y.cell? ⟨w.heap.size, 0, none⟩ = some (.string ⟨nm.toArray⟩) ∧ Y.cell? ⟨w.heap.size, 3, none⟩ = some (.slice ba L.length bc) from ⟨cell_of_blk ((hY.block _ (heap_lt hx0)).trans hx0) 0, cell_of_blk ((hY.block _ (heap_lt hx0)).trans hx0) 3⟩))
 have HUP := hidX (fun (Y : World) (hY : Below W0.heap.size W0 Y) => bl_trans hb0 hb0.size hY)
 obtain ⟨d0, d3⟩ := HX.out W0 (Below.refl _ _)
 clear hC hO hb0 hx0
 go_enter Tryd.func5, Tryd.ntmps5
 go_upto_region 1 with fail
 rw [← hW0]
 clear hW0
 go_cut [15] (fun v wc => wc = W0 ∧ v = .bool (decide (20 < L.length) && decide (L.length ≠ 3001)))
 case first =>
  by_cases c1 : 20 < L.length
  ·have c1' : (20 : Int) < (L.length : Int) := by omega
   by_cases c2 : L.length = 3001
   ·have c2' : ((L.length : Int) != 3001) = false := by rw [c2]; rfl
    have HC2 := hidX c2
    clear c2
    go_wp2_with fail
    go_meet
    case rel => exact ⟨rfl, by rw [HC2.out]; rfl⟩
   ·have c2' : ((L.length : Int) != 3001) = true := by rw [bne, beq_eq_false_iff_ne.2 (by omega)]; rfl
    have HC2 := hidX c2
    clear c2
    go_wp2_with fail
    go_meet
    case rel => exact ⟨rfl, by rw [decide_eq_true c1, decide_eq_true HC2.out]; rfl⟩
  ·have c1' : ¬ (20 : Int) < (L.length : Int) := by omega
   go_wp2_with fail
   go_meet
   case rel => exact ⟨rfl, by rw [decide_eq_false c1]; rfl⟩
 case rest =>
 obtain ⟨hwc, rfl⟩ := hcut
 replace hwc := hwc.symm
 subst hwc
 by_cases hc : (decide (20 < L.length) && decide (L.length ≠ 3001)) = true
 ·rw [hc]
  have HF := hidX (HUP.out W0 (Below.refl _ _))
  clear hc
  go_wp2
  go_ret
  exact ⟨1, rfl, Or.inl rfl, HF.out⟩
 have hc' : (decide (20 < L.length) && decide (L.length ≠ 3001)) = false := by simpa using hc
 rw [hc']
 have hl2 : L.length ≤ 3001 := by
  rw [Bool.and_eq_false_iff] at hc'
  rcases hc' with h | h
  ·have := of_decide_eq_false h; omega
  ·have := of_decide_eq_false h; omega
 have hl2' : (L.length : Int) ≤ 3001 := by omega
 clear hc hc' hL hL'
 go_wp2_with fail
 clear d3 d0
 go_loopw [3, 4, 5] (fun i _ _ wr => ∃ q : Nat, q ≤ L.length ∧ i = .int .i64 (q : Int) ∧ Hid (Below W0.heap.size W0 wr) ∧ Hid (∀ j (hj : j < L.length), j < q → FewLb L[j])) (fun i _ _ _ => L.length - (intOf i).toNat)
 case atStart => exact ⟨0, by omega, rfl, Below.refl _ _, fun j _ hj => absurd hj (by omega)⟩
 case round =>
  obtain ⟨q, hq, rfl, HB, HA⟩ := hrel
  obtain ⟨d0, d3⟩ := HX.out wr HB.out
  by_cases hlt : q < L.length
  ·have hlt' : (q : Int) < (L.length : Int) := by omega
   obtain ⟨g, off, ia, ic, ta, tc, eb, hgb, rI, rT, k0, k1, k2, k3⟩ := HC.out.blk hlt
   subst eb
   have hup := HUP.out wr HB.out
   replace k0 := (hup.cell (p := ⟨g, _, none⟩) hgb).trans k0
   replace k1 := (hup.cell (p := ⟨g, _, none⟩) hgb).trans k1
   replace k2 := (hup.cell (p := ⟨g, _, none⟩) hgb).trans k2
   replace k3 := (hup.cell (p := ⟨g, _, none⟩) hgb).trans k3
   have HOB := hidX (HO.out _ (List.getElem_mem hlt))
   have HSTP := hidX (show FewLb L[q] → ∀ j (hj : j < L.length), j < q + 1 → FewLb L[j] from fun h j hj hjq => by
    by_cases e : j = q
    ·subst e; exact h
    ·exact HA.out j hj (by omega))
   generalize L[q] = b at *
   have HRI := hidX (fun (Y : World) (hY : Below w.heap.size w Y) => rI.imp (inH_up hY) (keepH hY))
   obtain ⟨Wb, hWb⟩ : ∃ Wb, Wb = wr.alloc (.cells #[.slice ia b.ins.length ic, .string ⟨b.fin.toArray⟩, .int .i64 b.a, .slice ta b.tos.length tc] 59) := ⟨_, rfl⟩
   have hwb : Below wr.heap.size wr Wb := by rw [hWb]; (repeat (first | exact Below.refl _ _ | assumption | refine Below.drew ?_ | refine bT ?_ _ | refine bS ?_ _ | refine bA ?_ _))
   have hxb : Wb.heap[wr.heap.size]? = some (.cells #[.slice ia b.ins.length ic, .string ⟨b.fin.toArray⟩, .int .i64 b.a, .slice ta b.tos.length tc] 59 (0, 0)) := by rw [hWb]; exact heap_alloc_new _ _
   have HBB := hidX (bl_trans HB.out HB.out.size hwb)
   have HFF := hidX (HUP.out Wb HBB.out)
   have f0 : Wb.cell? ⟨wr.heap.size, 0, none⟩ = some (.slice ia b.ins.length ic) := cell_of_blk hxb 0
   have f1 : Wb.cell? ⟨wr.heap.size, 1, none⟩ = some (.string ⟨b.fin.toArray⟩) := cell_of_blk hxb 1
   have f3 : Wb.cell? ⟨wr.heap.size, 3, none⟩ = some (.slice ta b.tos.length tc) := cell_of_blk hxb 3
   have m1 : (b.ins.length : Int) ≤ 9223372036854775807 := by have := HOB.out.insl; omega
   have m2 : (b.fin.length : Int) ≤ 9223372036854775807 := by have := HOB.out.fin; omega
   have m4 : (b.tos.length : Int) ≤ 9223372036854775807 := by have := HOB.out.tos; omega
   clear rI rT hup hwb
   clear hxb
   go_upto_region 7 with fail
   rw [← hWb]
   clear hWb k0 k1 k2 k3 d3 d0
   obtain ⟨d0, _⟩ := HX.out Wb HBB.out
   by_cases h1 : (25 : Int) < (b.ins.length : Int)
   ·go_wp2
    go_ret
    exact ⟨1, rfl, Or.inl rfl, HFF.out⟩
   by_cases h3 : (4 : Int) < (b.tos.length : Int)
   ·go_wp2
    go_ret
    exact ⟨1, rfl, Or.inl rfl, HFF.out⟩
   by_cases h5 : (20 : Int) < (b.fin.length : Int)
   ·go_wp2
    go_ret
    exact ⟨1, rfl, Or.inl rfl, HFF.out⟩
   by_cases h6 : (20 : Int) < (nm.length : Int)
   ·go_wp2
    go_ret
    exact ⟨1, rfl, Or.inl rfl, HFF.out⟩
   obtain ⟨Wo, hWo⟩ : ∃ Wo, Wo = wr := ⟨_, rfl⟩
   subst hWo
   go_wp2_with fail
   go_loopw [5] (fun i wr => ∃ k : Nat, k ≤ b.ins.length ∧ i = .int .i64 (k : Int) ∧ wr = Wb ∧ Hid (∀ j (hj : j < b.ins.length), j < k → FewL b.ins[j])) (fun i _ => b.ins.length - (intOf i).toNat)
   case atStart => exact ⟨0, by omega, rfl, rfl, fun j _ hj => absurd hj (by omega)⟩
   case round =>
    obtain ⟨k, hk, rfl, hwr, HI⟩ := hrel
    subst hwr
    by_cases hkl : k < b.ins.length
    ·have hkl' : (k : Int) < (b.ins.length : Int) := by omega
     obtain ⟨gi, offi, ei, hgi, k0, k1, k2, k3, k4, k5⟩ := (HRI.out wr HFF.out).ins hkl
     subst ei
     have HOI := HOB.out.ins _ (List.getElem_mem hkl)
     have n0 : (b.ins[k].kind.length : Int) ≤ 9223372036854775807 := by have := HOI.kind; omega
     have n2 : (b.ins[k].name.length : Int) ≤ 9223372036854775807 := by have := HOI.name; omega
     have HSI := hidX (show FewL b.ins[k] → ∀ j (hj : j < b.ins.length), j < k + 1 → FewL b.ins[j] from fun h j hj hjq => by
      by_cases e : j = k
      ·subst e; exact h
      ·exact HI.out j hj (by omega))
     generalize b.ins[k] = x at *
     clear HOI k1 k2 k3 k4
     by_cases g2 : (20 : Int) < (x.kind.length : Int)
     ·go_wp2
      go_ret
      exact ⟨1, rfl, Or.inl rfl, HFF.out⟩
     by_cases g3 : (20 : Int) < (x.name.length : Int)
     ·go_wp2
      go_ret
      exact ⟨1, rfl, Or.inl rfl, HFF.out⟩
     have HS2 := hidX (HSI.out ⟨by omega, by omega⟩)
     go_wp2
     go_roundw
     case rel => exact ⟨k + 1, by omega, by go_num, trivial, HS2.out⟩
     case measure => simp [intOf]; omega
    ·have hkn : k = b.ins.length := by omega
     subst hkn
     have HFB := hidX (HSTP.out ⟨by omega, by omega, by omega, fun x hx => by
      obtain ⟨j, hj, rfl⟩ := List.getElem_of_mem hx
      exact HI.out j hj hj⟩)
     have hnk : ¬ ((b.ins.length : Int) < (b.ins.length : Int)) := by omega
     clear hkl
     go_wp2
     go_roundw
     case rel => exact ⟨q + 1, by omega, by go_num, HBB.out, HFB.out⟩
     case measure => simp [intOf]; omega
  ·have hqn : q = L.length := by omega
   have HAL := hidX (show ∀ b ∈ L, FewLb b from fun b hb => by
    obtain ⟨j, hj, rfl⟩ := List.getElem_of_mem hb
    exact HA.out j hj (by omega))
   have HF := hidX (HUP.out wr HB.out)
   have hnq : ¬ ((q : Int) < (L.length : Int)) := by omega
   clear hlt
   go_wp2
   go_ret
   exact ⟨0, rfl, Or.inr ⟨rfl, HAL.out⟩, HF.out⟩
end Go.Proofs.YtimccbilkjjakaaDoor
namespace Go.Proofs.YtimccbilkjjakaaDoor
open Go.RowKit
theorem al_info : (Tryd.prog.info? 52).map (fun i => (i.zero, i.size, i.bytes)) = some (some (.agg #[.string ⟨#[]⟩, .int .i64 0, .int .i64 0, .int .i64 0, .int .i64 0, .string ⟨#[]⟩]), 6, 64) := by kernel_rfl
theorem ab_info : (Tryd.prog.info? 55).map (fun i => (i.zero, i.size, i.bytes)) = some (some (.agg #[.slice none 0 0, .string ⟨#[]⟩, .int .i64 0, .slice none 0 0]), 4, 72) := by kernel_rfl
theorem li_one (n : Li) : ∀ u ∈ liV n, u.oneCell' = true := by
 intro u hu
 simp only [List.mem_cons, List.not_mem_nil, or_false] at hu
 rcases hu with rfl | rfl | rfl | rfl | rfl | rfl <;> rfl
theorem lb_one (b : Lb) (a1 a2 : Option Addr) (l1 c1 l2 c2 : Nat) : ∀ u ∈ ([.slice a1 l1 c1, .string ⟨b.fin.toArray⟩, .int .i64 b.a, .slice a2 l2 c2] : List Value), u.oneCell' = true := by
 intro u hu
 simp only [List.mem_cons, List.not_mem_nil, or_false] at hu
 rcases hu with rfl | rfl | rfl | rfl <;> rfl
def XLi (_ : Nat → Prop) (_ : World) (x : Li) (cs : List Value) : Prop := cs = liV x
theorem XLi.imp {A C : Nat → Prop} {w w' : World} (_ : ∀ b, A b → C b) (_ : KeepA A w w') : ∀ (l : Li) (xs : List Value), XLi A w l xs → XLi C w' l xs := fun _ _ h => h
theorem regL_cut3 {P : Program} {c : Code} {Q : Exit → Act → World → Prop} {a : Act} {w : World} (F : Nat → Option Addr → Nat → Act) (R : Nat → Option Addr → Nat → World → Prop) (h : c.wp P (Exit.then (fun a' w' => ∃ n a2 c2, a' = F n a2 c2 ∧ R n a2 c2 w') (fun _ _ _ => False)) a w)
  (k : ∀ n a2 c2 w', R n a2 c2 w' → Q .normal (F n a2 c2) w') : c.wp P Q a w :=
 Code.wp_mono (fun e a w g => by
  cases e with
  | normal => obtain ⟨n, a2, c2, rfl, g⟩ := g; exact k _ _ _ _ g
  | _ => exact g.elim) h
theorem wpAnyU_two {P : Program} {md : Region.Mode} {ops : Array Oper} {Q : Exit → Act → World → Prop} {S : World → Prop} {k : Nat} {i j : Nat} {oi oj : Oper} {fuel : Nat} {listed : Array Bool} {a : Act} {w : World} (hr : Region.ready md ops listed = [i, j]) (hi : ops[i]? = some oi) (hj : ops[j]? = some oj)
  (h1 : ∀ K' : Act → World → Prop, Shut (∀ a w, (i ≠ k → S w) → ((i ≠ k → S w) → wpAnyU P md ops Q S k fuel (listed.setIfInBounds i true) a w) → K' a w) → if Region.wanted oi (yielded ops a.tmps) = true then Oper.wp P oi a w K' Q else K' (a.put oi.dst undef) w)
  (h2 : ∀ K' : Act → World → Prop, Shut (∀ a w, (j ≠ k → S w) → ((j ≠ k → S w) → wpAnyU P md ops Q S k fuel (listed.setIfInBounds j true) a w) → K' a w) → if Region.wanted oj (yielded ops a.tmps) = true then Oper.wp P oj a w K' Q else K' (a.put oj.dst undef) w) :
  wpAnyU P md ops Q S k (fuel + 1) listed a w := by
 refine ⟨fun h0 => absurd (hr ▸ h0) (by simp), fun l hl => ?_⟩
 rw [hr] at hl
 rcases List.mem_cons.1 hl with rfl | hl
 ·exact wpOp_step hi (fun K' hK => h1 K' (fun a w hS hW => hK a w ⟨hS, hW hS⟩))
 ·have := List.mem_singleton.1 hl
  subst this
  exact wpOp_step hj (fun K' hK => h2 K' (fun a w hS hW => hK a w ⟨hS, hW hS⟩))
theorem thr_blksL (w : World) (a b c : Obj) : (((w.alloc a).alloc b).alloc c).heap[w.heap.size]? = some a ∧ (((w.alloc a).alloc b).alloc c).heap[w.heap.size + 1]? = some b ∧ (((w.alloc a).alloc b).alloc c).heap[w.heap.size + 1 + 1]? = some c := by
 refine ⟨?_, ?_, ?_⟩
 ·rw [Below.heap_alloc _ _ _ (by simp; omega), Below.heap_alloc _ _ _ (by simp), heap_alloc_new]
 ·rw [Below.heap_alloc _ _ _ (by simp)]
  have := heap_alloc_new (w.alloc a) b
  rwa [show (w.alloc a).heap.size = w.heap.size + 1 by simp] at this
 ·have := heap_alloc_new ((w.alloc a).alloc b) c
  rwa [show ((w.alloc a).alloc b).heap.size = w.heap.size + 1 + 1 by simp] at this
abbrev blV (b : Lb) (a2 : Option Addr) (c2 : Nat) : Array Value := #[.slice none 0 0, .string ⟨b.fin.toArray⟩, .int .i64 b.a, .slice a2 b.tos.length c2]
structure BoxL (X W : World) (b : Lb) (n : Nat) (a2 : Option Addr) (c2 : Nat) (cs : Array Value) : Prop where
 low : Below X.heap.size X W
 ge : X.heap.size ≤ n
 box : W.heap[n]? = some (.cells cs 55 (0, 0))
 tos : XRow (fun k => Nw X W k ∧ k ≠ n) W (.slice a2 b.tos.length c2) b.tos.length (intsG b.tos)
theorem BoxL.set {X W : World} {b : Lb} {n c2 : Nat} {a2 : Option Addr} {cs : Array Value} (h : BoxL X W b n a2 c2 cs) (i : Nat) (u : Value) : BoxL X (W.setCell ⟨n, i, none⟩ u) b n a2 c2 (cs.setIfInBounds i u) := by
 have hsz : (W.setCell ⟨n, i, none⟩ u).heap.size = W.heap.size := by simp [World.setCell]
 have hk : KeepA (fun k => Nw X W k ∧ k ≠ n) W (W.setCell ⟨n, i, none⟩ u) := fun k hk => Below.heap_setCell _ _ _ _ hk.2
 exact ⟨h.low.setCell h.ge u, h.ge, blk_setCell h.box i u, h.tos.imp (fun k hk => ⟨⟨hk.1.1, by rw [hsz]; exact hk.1.2⟩, hk.2⟩) hk⟩
abbrev bl0 : Array Value := #[.slice none 0 0, .string ⟨#[]⟩, .int .i64 0, .slice none 0 0]
theorem boxl_blk (w : World) (cs : Array Value) (t : TypeId) : Below w.heap.size w (w.alloc (.cells cs t)) := by (repeat (first | exact Below.refl _ _ | assumption | refine Below.drew ?_ | refine bT ?_ _ | refine bS ?_ _ | refine bA ?_ _))
theorem boxl_a {X W2 : World} {b : Lb} {a2 : Option Addr} {c2 : Nat} (cs : Array Value) (o2 : W2.ownsRow X.heap.size 3 1 (.slice a2 b.tos.length c2) b.tos.length (intsG b.tos)) (h2 : Below X.heap.size X W2) :
  BoxL X (W2.alloc (.cells cs 55)) b W2.heap.size a2 c2 cs := by
 have z2 := h2.size
 refine ⟨bl_trans h2 h2.size (boxl_blk _ _ _), by omega, heap_alloc_new _ _, (xrow_own o2).imp (fun k hk => ⟨⟨hk.1, by have := hk.2; simp; omega⟩, by have := hk.2; omega⟩) (fun k hk => ?_)⟩
 rw [Below.heap_alloc _ _ _ hk.2]
theorem boxl_c {X W2 : World} {b : Lb} {a2 : Option Addr} {c2 : Nat} (o2 : W2.ownsRow (X.alloc (.cells bl0 55)).heap.size 3 1 (.slice a2 b.tos.length c2) b.tos.length (intsG b.tos)) (h2 : Below (X.alloc (.cells bl0 55)).heap.size (X.alloc (.cells bl0 55)) W2) :
  BoxL X W2 b X.heap.size a2 c2 bl0 := by
 have z2 := h2.size
 have hs : (X.alloc (.cells bl0 55)).heap.size = X.heap.size + 1 := by simp
 have h3 := bl_trans (boxl_blk X bl0 55) (by omega) h2
 exact ⟨h3, by omega, (h2.block _ (by omega)).trans (heap_alloc_new _ _), (xrow_own o2).imp (fun k hk => ⟨⟨by have := hk.1; omega, hk.2⟩, by have := hk.1; omega⟩) (fun k hk => rfl)⟩
theorem BoxL.undrew {X W : World} {b : Lb} {n c2 : Nat} {a2 : Option Addr} {cs : Array Value} (h : BoxL X.drew W b n a2 c2 cs) : BoxL X W b n a2 c2 cs :=
 ⟨bl_trans (Below.drew (Below.refl _ _)) (Nat.le_refl _) h.low, h.ge, h.box, h.tos⟩
theorem BoxL.fill {X W : World} {b : Lb} {n c2 : Nat} {a2 : Option Addr} (h : BoxL X W b n a2 c2 bl0) : BoxL X ((((W.setCell ⟨n, 0, none⟩ (.slice none 0 0)).setCell ⟨n, 1, none⟩ (.string ⟨b.fin.toArray⟩)).setCell ⟨n, 2, none⟩ (.int .i64 b.a)).setCell ⟨n, 3, none⟩ (.slice a2 b.tos.length c2)) b n a2 c2 (blV b a2 c2) := by
 have := ((((h.set 0 (.slice none 0 0)).set 1 (.string ⟨b.fin.toArray⟩)).set 2 (.int .i64 b.a)).set 3 (.slice a2 b.tos.length c2))
 simpa using this
structure AlC (w W0 X : World) (cs : Array Value) (nv lv : Value) (K : List Lb) : Prop where
 low : Below w.heap.size w X
 src : X.heap[w.heap.size]? = some (.cells (cs.setIfInBounds 3 nv) 24 (0, 0))
 grow : GrowAt XLB W0 X (w.heap.size + 1 + 1) 3 cs 31 55 4 lv K
end Go.Proofs.YtimccbilkjjakaaDoor
